/- Texts PPlan0 to PPlan of this seat, laid into one. -/
import Derived.Deep.RegionHeld3
import Derived.Deep.RegionHeldLaw
import Derived.Test.YtmbecjlioogbhaaGreatDoorM16
import Derived.Test.YtmbecjlioogbhaaGreatDoorM17
set_option linter.unusedVariables false
set_option linter.unusedSimpArgs false
set_option linter.constructorNameAsVariable false
namespace Go.Proofs.YtmbecjlioogbhaaGreatDoor
section
set_option maxRecDepth 20000
open Go.RowKit
def kT (s:Sp) (F:List Nat):Nat→Nat→Nat
 | 0=>s.kp
 | i+1=>Tb.updN (kT s F i) (s.fr.keys.getD i 0) (F.getD i 0)
def kW (s:Sp) (F:List Nat) (i:Nat):List (Nat × List Nat):=(List.range i).map fun j=>(F.getD j 0,(s.fr (s.fr.keys.getD j 0)).getD [])
def bL (lv T:Nat→Nat):Nat→Nat→Nat
 | 0=>lv
 | i+1=>if Tb.bareB T i then Tb.updN (bL lv T i) i 0 else bL lv T i
def mL (lv:Nat→Nat) (M F:List Nat):Nat→Nat→Nat
 | 0=>lv
 | i+1=>Tb.updN (mL lv M F i) (M.getD i 0) (F.getD i 0)
def mW (T:Nat→Nat) (M F:List Nat) (i:Nat):List (Nat × List Nat):=(List.range i).map fun j=>(F.getD j 0,Tb.fours (Tb.leafF T (M.getD j 0)) 128)
structure Pln (w W:World) (b4 b6 b7 b8 bt pt bf:Nat) (r:Rt) (lv T:Nat→Nat) (L:List Nat) (ps:List (Nat × List Nat)) (K:List (Nat × Array Value)):Prop where
 ga:GatAt W w.heap.size b8 b7 b6 bf L ps
 kr:∀q∈K,W.heap[q.1]?=some (.cells q.2 3 (0,0))
 st:Stt W bt pt none r lv T
 z4:W.heap[b4]?=some (.cells zeroSt 98 (0,0))
 bel:Below w.heap.size w W
 ne:b4≠bt
 hi:w.heap.size≤b4∧w.heap.size≤bt∧w.heap.size≤pt
theorem blk_ne {W:World} {a b:Nat} {o o':Obj} (h1:W.heap[a]?=some o) (h2:W.heap[b]?=some o') (h:o≠o'):a≠b:=fun e=>h (by rw [e,h2] at h1;exact(Option.some.inj h1).symm)
theorem cells_ne {W:World} {a b t t':Nat} {cs cs':Array Value} {fr fr':Nat × Nat} (h1:W.heap[a]?=some (.cells cs t fr)) (h2:W.heap[b]?=some (.cells cs' t' fr')) (h:t≠t'):a≠b:=
 blk_ne h1 h2 (fun e=>h (by injection e))
section
variable {w W W':World} {b4 b6 b7 b8 bt pt bf:Nat} {r:Rt} {lv T:Nat→Nat} {L:List Nat} {ps:List (Nat × List Nat)} {K:List (Nat × Array Value)}
theorem Pln.x6 (h:Pln w W b4 b6 b7 b8 bt pt bf r lv T L ps K):∃v,W.heap[b6]?=some (.cells #[v] 146 (0,0)):=by obtain⟨v,hv,_⟩:=h.ga.wr;exact⟨v,hv⟩
theorem Pln.x7 (h:Pln w W b4 b6 b7 b8 bt pt bf r lv T L ps K):∃v,W.heap[b7]?=some (.cells #[v] 47 (0,0)):=by obtain⟨_,_,hf⟩:=h.ga.fr;exact⟨_,hf.box⟩
theorem Pln.xt (h:Pln w W b4 b6 b7 b8 bt pt bf r lv T L ps K):∃cs,W.heap[pt]?=some (.cells cs 187 (0,0)):=⟨_,h.st.tab.row⟩
theorem GatAt.below {base:Nat} (h:GatAt W base b8 b7 b6 bf L ps) (hb:Below W.heap.size W W'):GatAt W' base b8 b7 b6 bf L ps:=by
 obtain⟨v,hv,ho⟩:=h.wr
 obtain⟨o,c,hf⟩:=h.fr
 exact⟨(hb.block _ (lt_of_block h.x8)).trans h.x8,⟨o,c,hf.keep (hb.block _ hf.lt.1) (hb.block _ hf.lt.2)⟩,⟨v,(hb.block _ (lt_of_block hv)).trans hv,own_below ho hb⟩,h.ne,h.hi⟩
theorem Pln.below (h:Pln w W b4 b6 b7 b8 bt pt bf r lv T L ps K) (hb:Below W.heap.size W W'):Pln w W' b4 b6 b7 b8 bt pt bf r lv T L ps K:=by
 exact⟨h.ga.below hb,fun q hq=>(hb.block _ (lt_of_block (h.kr q hq))).trans (h.kr q hq),h.st.below hb,(hb.block _ (lt_of_block h.z4)).trans h.z4,Below.more h.bel hb h.bel.size,h.ne,h.hi⟩
theorem Pln.gather {x:Nat} {ps':List (Nat × List Nat)} (h:Pln w W b4 b6 b7 b8 bt pt bf r lv T (x :: L) ps K) (h1:GatAt W' w.heap.size b8 b7 b6 bf L ps') (h2:Gat w.heap.size b7 b6 W W'):Pln w W' b4 b6 b7 b8 bt pt bf r lv T L ps' K:=by
 obtain⟨v6,hv6⟩:=h.x6
 obtain⟨v7,hv7⟩:=h.x7
 obtain⟨ct,hct⟩:=h.xt
 have k:∀(b:Nat) (cs:Array Value) (t:Nat) (fr:Nat × Nat),W.heap[b]?=some (Obj.cells cs t fr)→t≠146→t≠47→t≠191→W'.heap[b]?=W.heap[b]?:=fun b cs t fr hb n1 n2 n3=>
  h2.block b (lt_of_block hb) (cells_ne hb hv7 n2) (cells_ne hb hv6 n1) (.inr fun cs2 fr2 e=>n3 (by rw [hb] at e;simp at e;exact e.2.1))
 refine⟨h1,fun q hq=>(k _ _ _ _ (h.kr q hq) (by decide) (by decide) (by decide)).trans (h.kr q hq),h.st.same (k _ _ _ _ h.st.box (by decide) (by decide) (by decide)) (k _ _ _ _ hct (by decide) (by decide) (by decide)),(k _ _ _ _ h.z4 (by decide) (by decide) (by decide)).trans h.z4,?_,h.ne,h.hi⟩
 exact⟨h2.os.trans h.bel.os,h2.tape.trans h.bel.tape,h2.output.trans h.bel.output,Nat.le_trans h.bel.size h2.size,fun b hb=>(h2.block b (Nat.lt_of_lt_of_le hb h.bel.size) (by have:=h.ga.hi.2;omega) (by have:=h.ga.hi.1;omega) (.inl hb)).trans (h.bel.block b hb)⟩
theorem Pln.take {x:Nat} (h:Pln w W b4 b6 b7 b8 bt pt bf r lv T (x :: L) ps K) (hf:∃o c,FreeAt W' b7 bf o c L) (ho:Only b7 W W'):Pln w W' b4 b6 b7 b8 bt pt bf r lv T L ps K:=by
 obtain⟨v6,hv6,ho6⟩:=h.ga.wr
 obtain⟨v7,hv7⟩:=h.x7
 obtain⟨ct,hct⟩:=h.xt
 have k:∀(b:Nat) (cs:Array Value) (t:Nat) (fr:Nat × Nat),W.heap[b]?=some (Obj.cells cs t fr)→t≠47→W'.heap[b]?=W.heap[b]?:=fun b cs t fr hb n1=>ho.block b (lt_of_block hb) (cells_ne hb hv7 n1)
 refine⟨⟨(k _ _ _ _ h.ga.x8 (by decide)).trans h.ga.x8,hf,⟨v6,(k _ _ _ _ hv6 (by decide)).trans hv6,?_⟩,h.ga.ne,h.ga.hi⟩,fun q hq=>(k _ _ _ _ (h.kr q hq) (by decide)).trans (h.kr q hq),
  ⟨(k _ _ _ _ h.st.box (by decide)).trans h.st.box,h.st.tab.same (k _ _ _ _ hct (by decide))⟩,(k _ _ _ _ h.z4 (by decide)).trans h.z4,ho.below h.bel h.bel.size h.ga.hi.2,h.ne,h.hi⟩
 exact ho6.kept (row:=some b7) ⟨ho.os,ho.tape,ho.output,ho.size,fun b hb hne=>ho.block b hb (fun e=>hne (by rw [e]))⟩ (.inr fun e=>wr_ne ho6 (.inr fun cs fr e2=>by rw [hv7] at e2;simp at e2) e.symm)
theorem Pln.table {T':Nat→Nat} (h:Pln w W b4 b6 b7 b8 bt pt bf r lv T L ps K) (h1:Tb.Tab W' pt T') (ho:Only pt W W'):Pln w W' b4 b6 b7 b8 bt pt bf r lv T' L ps K:=by
 obtain⟨v6,hv6,ho6⟩:=h.ga.wr
 obtain⟨v7,hv7⟩:=h.x7
 obtain⟨ct,hct⟩:=h.xt
 obtain⟨o,c,hf⟩:=h.ga.fr
 obtain⟨cf,hcf,_⟩:=hf.row
 have k:∀(b:Nat) (cs:Array Value) (t:Nat) (fr:Nat × Nat),W.heap[b]?=some (Obj.cells cs t fr)→t≠187→W'.heap[b]?=W.heap[b]?:=fun b cs t fr hb n1=>ho.block b (lt_of_block hb) (cells_ne hb hct n1)
 refine⟨⟨(k _ _ _ _ h.ga.x8 (by decide)).trans h.ga.x8,⟨o,c,hf.keep (k _ _ _ _ hf.box (by decide)) (k _ _ _ _ hcf (by decide))⟩,⟨v6,(k _ _ _ _ hv6 (by decide)).trans hv6,?_⟩,h.ga.ne,h.ga.hi⟩,fun q hq=>(k _ _ _ _ (h.kr q hq) (by decide)).trans (h.kr q hq),
  ⟨(k _ _ _ _ h.st.box (by decide)).trans h.st.box,h1⟩,(k _ _ _ _ h.z4 (by decide)).trans h.z4,ho.below h.bel h.bel.size h.hi.2.2,h.ne,h.hi⟩
 exact ho6.kept (row:=some pt) ⟨ho.os,ho.tape,ho.output,ho.size,fun b hb hne=>ho.block b hb (fun e=>hne (by rw [e]))⟩ (.inr fun e=>wr_ne ho6 (.inr fun cs fr e2=>by rw [hct] at e2;simp at e2) e.symm)
theorem Pln.state {r':Rt} {lv':Nat→Nat} (h:Pln w W b4 b6 b7 b8 bt pt bf r lv T L ps K) (h1:W'.heap[bt]?=some (.cells (stA r' lv' (some ⟨pt,0,none⟩) none) 98 (0,0))) (ho:Only bt W W'):Pln w W' b4 b6 b7 b8 bt pt bf r' lv' T L ps K:=by
 obtain⟨v6,hv6,ho6⟩:=h.ga.wr
 obtain⟨ct,hct⟩:=h.xt
 obtain⟨o,c,hf⟩:=h.ga.fr
 obtain⟨cf,hcf,_⟩:=hf.row
 have k:∀(b:Nat) (cs:Array Value) (t:Nat) (fr:Nat × Nat),W.heap[b]?=some (Obj.cells cs t fr)→t≠98→W'.heap[b]?=W.heap[b]?:=fun b cs t fr hb n1=>ho.block b (lt_of_block hb) (cells_ne hb h.st.box n1)
 refine⟨⟨(k _ _ _ _ h.ga.x8 (by decide)).trans h.ga.x8,⟨o,c,hf.keep (k _ _ _ _ hf.box (by decide)) (k _ _ _ _ hcf (by decide))⟩,⟨v6,(k _ _ _ _ hv6 (by decide)).trans hv6,?_⟩,h.ga.ne,h.ga.hi⟩,fun q hq=>(k _ _ _ _ (h.kr q hq) (by decide)).trans (h.kr q hq),
  ⟨h1,h.st.tab.same (k _ _ _ _ hct (by decide))⟩,(ho.block b4 (lt_of_block h.z4) h.ne).trans h.z4,ho.below h.bel h.bel.size h.hi.2.1,h.ne,h.hi⟩
 exact ho6.kept (row:=some bt) ⟨ho.os,ho.tape,ho.output,ho.size,fun b hb hne=>ho.block b hb (fun e=>hne (by rw [e]))⟩ (.inr fun e=>wr_ne ho6 (.inr fun cs fr e2=>by rw [h.st.box] at e2;simp at e2) e.symm)
end
theorem keysRow {w:World} {B:Nat} {v:Value} {l:List Nat} (h:OwnI w B v l):∃(p:Option Addr) (c:Nat) (K:List (Nat × Array Value)),v = .slice p l.length c∧(∀q∈K,w.heap[q.1]?=some (.cells q.2 3 (0,0))) ∧
  ∀i,i<l.length→∃(bk:Nat) (cs:Array Value),p=some ⟨bk,0,none⟩∧(bk,cs)∈K∧cs[i]?=some (.int .i64 ((l.getD i 0:Nat):Int)):=by
 rcases h.2 with ⟨e,h0⟩ | ⟨gb,cap,cur,e,hb,hh,h1,h2,h3,h4⟩
 ·exact⟨none,0,[],by rw [e,h0],fun q hq=>(by cases hq),fun i hi=>(by omega)⟩
 ·refine⟨_,cap,[(gb,cur)],e,fun q hq=>?_,fun i hi=>⟨gb,cur,rfl,by simp,?_⟩⟩
  ·simp only [List.mem_cons,List.not_mem_nil,or_false] at hq
   rw [hq];exact hh
  ·have h5:=ivs_get l i hi
   rw [←h4,List.getElem?_take,if_pos (by omega)] at h5
   simpa using h5
theorem Pln.more {w W:World} {b4 b6 b7 b8 bt pt bf:Nat} {r:Rt} {lv T:Nat→Nat} {L:List Nat} {ps:List (Nat × List Nat)} {K K':List (Nat × Array Value)} (h:Pln w W b4 b6 b7 b8 bt pt bf r lv T L ps K) (hk:∀q∈K',W.heap[q.1]?=some (.cells q.2 3 (0,0))):Pln w W b4 b6 b7 b8 bt pt bf r lv T L ps K':=
 ⟨h.ga,hk,h.st,h.z4,h.bel,h.ne,h.hi⟩
theorem key_data {f:Pgs} {i:Nat} (hi:i<f.keys.length):∃b,f (f.keys.getD i 0)=some b:=by
 have h1:f.keys.getD i 0∈f.keys:=by rw [List.getD_eq_getElem?_getD,List.getElem?_eq_getElem hi];exact List.getElem_mem _
 exact Option.isSome_iff_exists.1 (Pgs.mem_keys.1 h1).2
theorem free_ok {s:Sp} {pg i:Nat} (hr:s.g.r.pg=(pg:Int)) (hpg:pg≤512) (hi:i<(freeL s).length):Tb.pgI (((freeL s).getD i 0:Nat):Int)=true:=by
 have h1:(freeL s).getD i 0∈freeL s:=by rw [List.getD_eq_getElem?_getD,List.getElem?_eq_getElem hi];exact List.getElem_mem _
 obtain⟨x,hx⟩:∃x,(freeL s).getD i 0=x:=⟨_,rfl⟩
 rw [hx] at h1 ⊢
 unfold freeL Tb.mems at h1
 rw [List.mem_filter,List.mem_range] at h1
 have h2:=h1.2
 unfold frB at h2
 simp only [Bool.and_eq_true,decide_eq_true_eq] at h2
 have h3:=h1.1
 rw [hr,Int.toNat_natCast] at h3
 simp [Tb.pgI]
 omega
theorem drop_cons {L:List Nat} {i:Nat} (hi:i<L.length):L.drop i=L.getD i 0 :: L.drop (i+1):=by
 rw [List.drop_eq_getElem_cons hi,List.getD_eq_getElem?_getD,List.getElem?_eq_getElem hi];rfl
theorem kW_succ (s:Sp) (F:List Nat) (i:Nat):kW s F (i+1)=kW s F i++[(F.getD i 0,(s.fr (s.fr.keys.getD i 0)).getD [])]:=by unfold kW;rw [List.range_succ,List.map_append];rfl
theorem kW_len (s:Sp) (F:List Nat) (i:Nat):(kW s F i).length=i:=by unfold kW;rw [List.length_map,List.length_range]
theorem mW_succ (T:Nat→Nat) (M F:List Nat) (i:Nat):mW T M F (i+1)=mW T M F i++[(F.getD i 0,Tb.fours (Tb.leafF T (M.getD i 0)) 128)]:=by unfold mW;rw [List.range_succ,List.map_append];rfl
theorem mW_len (T:Nat→Nat) (M F:List Nat) (i:Nat):(mW T M F i).length=i:=by unfold mW;rw [List.length_map,List.length_range]
theorem stA_dir (r:Rt) (lv:Nat→Nat) (p q:Option Addr) (x:Int):(stA r lv p q).setIfInBounds 2 (.int .i64 x)=stA { r with dr:=x } lv p q:=by simp [stA]
theorem Pln.only {w W W':World} {b4 b6 b7 b8 bt pt bf:Nat} {r:Rt} {lv T:Nat→Nat} {L:List Nat} {ps:List (Nat × List Nat)} {K:List (Nat × Array Value)} (h:Pln w W b4 b6 b7 b8 bt pt bf r lv T L ps K) (ho:Only bt W W') :
  GatAt W' w.heap.size b8 b7 b6 bf L ps∧W'.heap[b4]?=some (.cells zeroSt 98 (0,0))∧Below w.heap.size w W'∧Tb.Tab W' pt T:=by
 obtain⟨v6,hv6,ho6⟩:=h.ga.wr
 obtain⟨ct,hct⟩:=h.xt
 obtain⟨o,c,hf⟩:=h.ga.fr
 obtain⟨cf,hcf,_⟩:=hf.row
 have k:∀(b:Nat) (cs:Array Value) (t:Nat) (fr:Nat × Nat),W.heap[b]?=some (Obj.cells cs t fr)→t≠98→W'.heap[b]?=W.heap[b]?:=fun b cs t fr hb n1=>ho.block b (lt_of_block hb) (cells_ne hb h.st.box n1)
 refine⟨⟨(k _ _ _ _ h.ga.x8 (by decide)).trans h.ga.x8,⟨o,c,hf.keep (k _ _ _ _ hf.box (by decide)) (k _ _ _ _ hcf (by decide))⟩,⟨v6,(k _ _ _ _ hv6 (by decide)).trans hv6,?_⟩,h.ga.ne,h.ga.hi⟩,
  (ho.block b4 (lt_of_block h.z4) h.ne).trans h.z4,ho.below h.bel h.bel.size h.hi.2.1,h.st.tab.same (k _ _ _ _ hct (by decide))⟩
 exact ho6.kept (row:=some bt) ⟨ho.os,ho.tape,ho.output,ho.size,fun b hb hne=>ho.block b hb (fun e=>hne (by rw [e]))⟩ (.inr fun e=>wr_ne ho6 (.inr fun cs fr e2=>by rw [h.st.box] at e2;simp at e2) e.symm)
def dirO (lv:Nat→Nat) (f:Nat→Bool):List Nat:=if Tb.okL (lv 0:Nat) (lv 1:Nat) (lv 2:Nat) (lv 3:Nat)=true then Tb.dirB (lv 0:Nat) (lv 1:Nat) (lv 2:Nat) (lv 3:Nat) f else []
theorem enc_O (lv:Nat→Nat) {gs bs:Nat} {f:Nat→Bool} {w:World} (hS:Bi.Sat w gs bs 512 f) :
  Calls Tryz.prog 143 #[.agg #[.int .i64 (lv 0:Nat),.int .i64 (lv 1:Nat),.int .i64 (lv 2:Nat),.int .i64 (lv 3:Nat),.pointer (some ⟨gs,0,none⟩)]] w fun e w'=>(∃p n c x,e = .returned (.tuple #[.slice p n c,.int .i64 x])∧Bys w' p n (dirO lv f))∧Below w.heap.size w w':=by
 refine(Tb.enc_any _ _ _ _ gs bs f w hS).mono ?_
 rintro e w' ⟨h,hb⟩
 refine⟨?_,hb⟩
 rcases h with ⟨h1,p,c,he,hB,_⟩ | ⟨h1,he⟩
 ·exact⟨p,512,c,0,he,by unfold dirO;rw [if_pos h1];exact hB⟩
 ·exact⟨none,0,0,1,he,by unfold dirO;rw [if_neg (by rw [h1];simp)];exact⟨rfl,by simp,fun h=>by simp at h⟩⟩
theorem grow_keep {w W:World} {base k n t:Nat} {v:Value} {xs:List Value} {o:Obj} {cs:Array Value} {fr:Nat × Nat} (ho:w.ownsRow base 191 2 v n xs) (hg:(w.alloc o).drew.grownBy W v.ownBlock) (hk:w.heap[k]?=some (.cells cs t fr)) (ht:t≠191):W.heap[k]?=w.heap[k]?:=
 (hg.block k (by have:=lt_of_block hk;show k<(w.alloc o).heap.size;simp;omega) (wr_ne ho (.inr fun cs2 fr2 e=>ht (by rw [hk] at e;simp at e;exact e.2.1)))).trans ((alloc_below w o).block k (lt_of_block hk))
theorem field_cont (S:ByteArray):∀w,(Instr.field 134 (.agg #[.string S]) 0).run Tryz.prog w = .ok (.string S) w:=fun w=>by kernel_rfl
theorem stA_leaf (r:Rt) (lv:Nat→Nat) (p q:Option Addr) (i x:Nat) (hi:i<4):(stA r lv p q).setIfInBounds (4+i) (.int .i64 (x:Int))=stA r (Tb.updN lv i x) p q:=by
 rcases (show i=0∨i=1∨i=2∨i=3 by omega) with rfl | rfl | rfl | rfl <;> simp [stA,Tb.updN]
theorem Pln.leaf {w W:World} {b4 b6 b7 b8 bt pt bf:Nat} {r:Rt} {lv T:Nat→Nat} {L:List Nat} {ps:List (Nat × List Nat)} {K:List (Nat × Array Value)} (h:Pln w W b4 b6 b7 b8 bt pt bf r lv T L ps K) (i x:Nat) (hi:i<4) :
  Pln w (W.setCell ⟨bt,4+i,none⟩ (.int .i64 (x:Int))) b4 b6 b7 b8 bt pt bf r (Tb.updN lv i x) T L ps K:=
 h.state (by rw [←stA_leaf r lv _ _ i x hi];exact heap_setCell_same _ bt (4+i) _ 98 _ h.st.box) (Only.setCell bt (4+i) _ W)
end
section
set_option maxRecDepth 20000
open Go.RowKit
structure RowI (W:World) (bf c:Nat) (L:List Nat):Prop where
 le:L.length≤c∧c≤9223372036854775807
 row:∃cs,W.heap[bf]?=some (.cells cs 3 (0,0))∧∀i,i<L.length→cs[i]?=some (.int .i64 ((L.getD i 0:Nat):Int))
theorem RowI.of {W:World} {B:Nat} {v:Value} {L:List Nat} (h:OwnI W B v L) (hl:0<L.length):∃bf c,v = .slice (some ⟨bf,0,none⟩) L.length c∧B≤bf∧RowI W bf c L:=by
 rcases h.2 with ⟨_,h0⟩ | ⟨gb,cap,cur,e,hb,hh,h1,h2,h3,h4⟩
 ·omega
 ·refine⟨gb,cap,e,hb,⟨h1,by unfold maxLen at h2;omega⟩,cur,hh,fun i hi=>?_⟩
  have h5:=ivs_get L i hi
  rw [←h4,List.getElem?_take,if_pos (by omega)] at h5
  simpa using h5
theorem RowI.free {W W':World} {bf c b7:Nat} {L:List Nat} (h:RowI W bf c L) (hb:W'.heap[bf]?=W.heap[bf]?) (h7:W'.heap[b7]?=some (.cells #[.slice (some ⟨bf,0,none⟩) L.length c] 47 (0,0))):FreeAt W' b7 bf 0 c L:=
 ⟨h7,⟨h.le.1,by have:=h.le.2;omega⟩,by obtain⟨cs,hc,hr⟩:=h.row;exact⟨cs,hb.trans hc,fun i hi=>by rw [Nat.zero_add];exact hr i hi⟩⟩
def plT (s:Sp):Nat→Nat:=kT s (freeL s) s.fr.keys.length
def plF (s:Sp):List Nat:=(freeL s).drop s.fr.keys.length
def plL (s:Sp):Nat→Nat:=mL (bL s.g.lv (plT s) 4) (movL s) (plF s) (movL s).length
def plD (s:Sp):Nat:=(plF s).getD (movL s).length 0
def planRt (s:Sp) (r:Rt):Rt:={ r with dr:=(plD s:Int) }
def plU (s:Sp) (r:Rt):Nat→Bool:=(pgsM (planRt s r) (plL s) (plT s)).1
def plW (s:Sp) (r:Rt):List (Nat × List Nat):=(kW s (freeL s) s.fr.keys.length++mW (plT s) (movL s) (plF s) (movL s).length)++[(plD s,dirO (plL s) (plU s r))]
def PlanR (s:Sp) (r:Rt) (w w':World) (e:Ending):Prop:=
 ∃(pt gu bu:Nat) (vr:Value),e = .returned (.tuple #[.agg (stA (planRt s r) (plL s) (some ⟨pt,0,none⟩) (some ⟨gu,0,none⟩)),vr])∧w.heap.size≤pt∧w.heap.size≤gu∧w.heap.size≤bu ∧
  Tb.Tab w' pt (plT s)∧Bi.Sat w' gu bu 512 (plU s r)∧w'.ownsRow w.heap.size 191 2 vr (plW s r).length (wrs (plW s r))
section
variable {w:World} {g d pt0 pk mb:Nat} {pu po:Option Addr} {s:Sp}
set_option maxHeartbeats 12800000 in
theorem plan_sp (h:Spc0 w g d pt0 pk mb pu po s) (pg:Nat) (hr:s.g.r.pg=(pg:Int)) (hpg:pg≤512) (r:Rt) (hN:needS s≤(freeL s).length) :
  Calls Tryz.prog 88 #[.pointer (some ⟨g,0,none⟩),r.val] w fun e w'=>PlanR s r w w' e∧Below w.heap.size w w':=by
 have HA1:Hid (Below w.heap.size w (((w.alloc (.cells #[.int .i64 r.ep,.int .i64 r.pg,.int .i64 r.dr,.int .i64 r.wd] 93)).alloc (.cells zeroSt 98)).alloc (.cells #[.slice none 0 0] 146))):=Lib.hid ((((Below.refl _ _).alloc (Nat.le_refl _) _).alloc (by simp) _).alloc (by simp;omega) _)
 have HX1:=Lib.hid (h.below HA1.out)
 have HFR:=Lib.hid (free_any HX1.out)
 have HFL:Hid (Tb.mems (frB (heldS s)) pg=freeL s):=Lib.hid (by unfold freeL;rw [hr,Int.toNat_natCast])
 have HCO:Hid (∀w1 w2 B1 B2 gh bh,FrN w1 w2 B1 B2 g gh bh s.g.r (heldS s)→Calls Tryz.prog 135 #[.func (.func 170) #[] #[.pointer (some ⟨B1,0,none⟩),.pointer (some ⟨B2,0,none⟩)]] w2 fun e w'=>(∃bf c,e = .returned (.slice (some ⟨bf,0,none⟩) (freeL s).length c)∧w2.heap.size≤bf∧RowI w' bf c (freeL s))∧Below w2.heap.size w2 w'):=Lib.hid fun w1 w2 B1 B2 gh bh hF=>by
  have:=collect_free hF.k hr hpg
  rw [HFL.out] at this
  refine this.mono ?_
  rintro e w' ⟨⟨v,rfl,ho⟩,hb⟩
  obtain⟨bf,c,rfl,h1,h2⟩:=RowI.of ho (by unfold needS at hN;omega)
  exact⟨⟨bf,c,rfl,h1,h2⟩,hb⟩
 have HX:=Lib.hid h
 clear h
 unfold Rt.val
 go_enter Tryz.func88,Tryz.ntmps88
 go_upto_region 5 with (first
  | (go_at_call 133;refine HFR.out.mono ?_;rintro e w2 ⟨⟨B1,B2,gh,bh,rfl,hF2⟩,hb2⟩)
  | (go_at_call 135;refine(HCO.out _ _ _ _ _ _ hF2).mono ?_;rintro e w3 ⟨⟨bf,cf,rfl,hbf,hR3⟩,hb3⟩))
 have hs2:w.heap.size+3≤w2.heap.size:=by
  have h1:=hb2.size
  simp at h1
  omega
 have hs3:=hb3.size
 have hb13:=Below.more hb2 hb3 hb2.size
 have hbW:=Below.more HA1.out hb13 HA1.out.size
 have HR5:Hid (RtAt ((w3.alloc (.cells #[.slice (some ⟨bf,0,none⟩) (freeL s).length cf] 47)).alloc (.cells #[.func (.func 136) #[] #[.pointer (some ⟨w3.heap.size,0,none⟩)]] 34)) w.heap.size 93 r):=Lib.hid (by
  have h1:RtAt (w.alloc (.cells #[.int .i64 r.ep,.int .i64 r.pg,.int .i64 r.dr,.int .i64 r.wd] 93)) w.heap.size 93 r:=heap_alloc_new w _
  have h2:=((h1.below (alloc_below _ (.cells zeroSt 98))).below (alloc_below _ (.cells #[.slice none 0 0] 146))).below hb13
  exact(h2.below (alloc_below _ _)).below (alloc_below _ _))
 have hZ0:(((w.alloc (.cells #[.int .i64 r.ep,.int .i64 r.pg,.int .i64 r.dr,.int .i64 r.wd] 93)).alloc (.cells zeroSt 98)).alloc (.cells #[.slice none 0 0] 146)).heap[w.heap.size+1]?=some (.cells zeroSt 98 (0,0)):=by
  have h1:=heap_alloc_new (w.alloc (.cells #[.int .i64 r.ep,.int .i64 r.pg,.int .i64 r.dr,.int .i64 r.wd] 93)) (.cells zeroSt 98)
  rw [show (w.alloc (.cells #[.int .i64 r.ep,.int .i64 r.pg,.int .i64 r.dr,.int .i64 r.wd] 93)).heap.size=w.heap.size+1 by simp] at h1
  exact((alloc_below _ (.cells #[.slice none 0 0] 146)).block _ (by simp)).trans h1
 have h60:(((w.alloc (.cells #[.int .i64 r.ep,.int .i64 r.pg,.int .i64 r.dr,.int .i64 r.wd] 93)).alloc (.cells zeroSt 98)).alloc (.cells #[.slice none 0 0] 146)).heap[w.heap.size+1+1]?=some (.cells #[.slice none 0 0] 146 (0,0)):=by
  have h1:=heap_alloc_new ((w.alloc (.cells #[.int .i64 r.ep,.int .i64 r.pg,.int .i64 r.dr,.int .i64 r.wd] 93)).alloc (.cells zeroSt 98)) (.cells #[.slice none 0 0] 146)
  rwa [show ((w.alloc (.cells #[.int .i64 r.ep,.int .i64 r.pg,.int .i64 r.dr,.int .i64 r.wd] 93)).alloc (.cells zeroSt 98)).heap.size=w.heap.size+1+1 by simp] at h1
 have hbW5:Below w3.heap.size w3 ((w3.alloc (.cells #[.slice (some ⟨bf,0,none⟩) (freeL s).length cf] 47)).alloc (.cells #[.func (.func 136) #[] #[.pointer (some ⟨w3.heap.size,0,none⟩)]] 34)):=((Below.refl _ _).alloc (Nat.le_refl _) _).alloc (by simp) _
 have hall:=Below.more hb13 hbW5 hb13.size
 have HZ4:Hid (((w3.alloc (.cells #[.slice (some ⟨bf,0,none⟩) (freeL s).length cf] 47)).alloc (.cells #[.func (.func 136) #[] #[.pointer (some ⟨w3.heap.size,0,none⟩)]] 34)).heap[w.heap.size+1]?=some (.cells zeroSt 98 (0,0))):=Lib.hid ((hall.block _ (lt_of_block hZ0)).trans hZ0)
 have HG5:Hid (GatAt ((w3.alloc (.cells #[.slice (some ⟨bf,0,none⟩) (freeL s).length cf] 47)).alloc (.cells #[.func (.func 136) #[] #[.pointer (some ⟨w3.heap.size,0,none⟩)]] 34)) w.heap.size (w3.heap.size+1) w3.heap.size (w.heap.size+1+1) bf (freeL s) []):=Lib.hid (by
  have hbf3:bf<w3.heap.size:=by obtain⟨cs,hc,_⟩:=hR3.row;exact lt_of_block hc
  refine⟨heap_alloc2_new w3 _ _,⟨0,cf,hR3.free (hbW5.block bf hbf3) (heap_alloc2_old w3 _ _)⟩,⟨_,(hall.block _ (lt_of_block h60)).trans h60,World.ownsRow_nil _ _ _ _⟩,⟨by omega,by omega,by omega,by omega⟩,by omega,by omega⟩)
 have HB5:=Lib.hid (Below.more hbW hbW5 hbW.size)
 have HX5:=Lib.hid (HX.out.below HB5.out)
 clear hs2 hs3 hb13 hbW hZ0 h60 hbW5 hall hb2 hb3 hF2 hR3 hbf HA1 HX1 HFR HCO
 generalize ((w3.alloc (.cells #[.slice (some ⟨bf,0,none⟩) (freeL s).length cf] 47)).alloc (.cells #[.func (.func 136) #[] #[.pointer (some ⟨w3.heap.size,0,none⟩)]] 34))=W5 at *
 generalize w3.heap.size+1=b8 at *
 generalize w3.heap.size=b7 at *
 obtain⟨b6,hb6⟩:∃b6,w.heap.size+1+1=b6:=⟨_,rfl⟩
 rw [hb6] at HG5 ⊢
 obtain⟨b4,hb4⟩:∃b4,w.heap.size+1=b4:=⟨_,rfl⟩
 have HB4:=Lib.hid hb4
 rw [hb4] at HZ4 ⊢
 have HQ:Hid (∀u,Below W5.heap.size W5 u→u.cell? ⟨w.heap.size,0,none⟩=some (.int .i64 r.ep)∧u.cell? ⟨w.heap.size,1,none⟩=some (.int .i64 r.pg)∧u.cell? ⟨w.heap.size,2,none⟩=some (.int .i64 r.dr)∧u.cell? ⟨w.heap.size,3,none⟩=some (.int .i64 r.wd)∧u.cell? ⟨g,5,none⟩=some (.int .i64 (s.g.lv 0:Nat))∧u.cell? ⟨g,6,none⟩=some (.int .i64 (s.g.lv 1:Nat))∧u.cell? ⟨g,7,none⟩=some (.int .i64 (s.g.lv 2:Nat))∧u.cell? ⟨g,8,none⟩=some (.int .i64 (s.g.lv 3:Nat))∧u.cell? ⟨g,12,none⟩=some (.pointer (some ⟨pk,0,none⟩))):=Lib.hid fun u hu=>
  have a:=HR5.out.below hu
  have b:=(HX5.out.below hu).box
  ⟨a.c0,a.c1,a.c2,a.c3,by rw [cell_of_row _ _ _ _ _ _ b];rfl,by rw [cell_of_row _ _ _ _ _ _ b];rfl,by rw [cell_of_row _ _ _ _ _ _ b];rfl,by rw [cell_of_row _ _ _ _ _ _ b];rfl,by rw [cell_of_row _ _ _ _ _ _ b];rfl⟩
 have HKP:=Lib.hid (fun u (hu:Below W5.heap.size W5 u)=>Tb.copy_any (HX5.out.below hu).kep)
 go_cut [10] (fun v wx=>∃bt pt,v = .pointer (some ⟨bt,0,none⟩)∧Hid (Stt wx bt pt none r s.g.lv s.kp∧W5.heap.size≤bt∧W5.heap.size≤pt∧Below W5.heap.size W5 wx))
 case first=>
  have HT9:=Lib.hid (fun u=>Ten.new u)
  obtain⟨q0,q1,q2,q3,q4,q5,q6,q7,q8⟩:=HQ.out W5 (Below.refl _ _)
  obtain⟨o0,o1,o2,o3,o4,o5,o6,o7,o8⟩:=HQ.out (W5.alloc (.cells #[.int .i64 0,.int .i64 0,.int .i64 0,.int .i64 0,.int .i64 0,.int .i64 0,.int .i64 0,.int .i64 0,.pointer none,.pointer none] 98)) ((Below.refl _ _).alloc (Nat.le_refl _) _)
  have n1:w.heap.size≠W5.heap.size:=Nat.ne_of_lt HR5.out.lt
  have n2:g≠W5.heap.size:=Nat.ne_of_lt HX5.out.lts.1
  have HNN:Hid (∀u,Below W5.heap.size W5 u→w.heap.size≠u.heap.size∧g≠u.heap.size):=Lib.hid fun u hu=>⟨by have:=hu.size;have:=HR5.out.lt;omega,by have:=hu.size;have:=HX5.out.lts.1;omega⟩
  go_region_held3 (fun u=>u.cell? ⟨w.heap.size,0,none⟩=some (.int .i64 r.ep)∧u.cell? ⟨w.heap.size,1,none⟩=some (.int .i64 r.pg)∧u.cell? ⟨w.heap.size,2,none⟩=some (.int .i64 r.dr)∧u.cell? ⟨w.heap.size,3,none⟩=some (.int .i64 r.wd)∧u.cell? ⟨g,5,none⟩=some (.int .i64 (s.g.lv 0:Nat))∧u.cell? ⟨g,6,none⟩=some (.int .i64 (s.g.lv 1:Nat))∧u.cell? ⟨g,7,none⟩=some (.int .i64 (s.g.lv 2:Nat))∧u.cell? ⟨g,8,none⟩=some (.int .i64 (s.g.lv 3:Nat))∧u.cell? ⟨g,12,none⟩=some (.pointer (some ⟨pk,0,none⟩))) ((first
   | go_keep
   | exact⟨(Ten.read n1 ..).trans y0,(Ten.read n1 ..).trans y1,(Ten.read n1 ..).trans y2,(Ten.read n1 ..).trans y3,(Ten.read n2 ..).trans y4,(Ten.read n2 ..).trans y5,(Ten.read n2 ..).trans y6,(Ten.read n2 ..).trans y7,(Ten.read n2 ..).trans y8⟩)) (first
   | (
     go_at_call 129;refine(HKP.out _ ?_).mono ?_;(first | exact(Below.refl _ _).drew | exact((Below.refl _ _).alloc (Nat.le_refl _) _).drew);rintro e w15 ⟨rfl,hT15,hb15⟩
     first
      | (
       have hB:Below W5.heap.size W5 w15:=(Below.refl _ _).drew.trans hb15
       obtain⟨y0,y1,y2,y3,y4,y5,y6,y7,y8⟩:=HQ.out w15 hB
       obtain⟨m1,m2⟩:=HNN.out w15 hB
       obtain⟨⟨x0,x1,x2,x3,x4,x5,x6,x7,x8,x9⟩,xf⟩:=(HT9.out w15).cells)
      | (
       have hA:Below W5.heap.size W5 (W5.drew.alloc (.cells #[.int .i64 0,.int .i64 0,.int .i64 0,.int .i64 0,.int .i64 0,.int .i64 0,.int .i64 0,.int .i64 0,.pointer none,.pointer none] 98)):=(Below.refl _ _).drew.alloc (Nat.le_refl _) _
       have hB:Below W5.heap.size W5 w15:=Below.more hA hb15 hA.size
       obtain⟨y0,y1,y2,y3,y4,y5,y6,y7,y8⟩:=HQ.out w15 hB
       have hT9:Ten w15 W5.heap.size:=⟨(hb15.block _ (lt_of_block (HT9.out W5.drew).row)).trans (HT9.out W5.drew).row⟩
       obtain⟨⟨x0,x1,x2,x3,x4,x5,x6,x7,x8,x9⟩,xf⟩:=hT9.cells)))
  all_goals go_wp2_with fail
  all_goals go_meet
  ·exact⟨w15.heap.size,W5.heap.size,rfl,Stt.fresh hT15 hB⟩
  ·exact⟨W5.heap.size,W5.heap.size+1,rfl,Stt.chain hT9 (by have h1:=hT15;rwa [show ∀o:Obj,(W5.alloc o).drew.heap.size=W5.heap.size+1 from fun o=>by simp [World.drew]] at h1) (by omega) hB (Nat.le_refl _) (by omega)⟩
 case rest=>
 obtain⟨bt,pt,rfl,HC⟩:=hcut
 have HP0:Hid (Pln w wc b4 b6 b7 b8 bt pt bf r s.g.lv s.kp (freeL s) [] []):=Lib.hid
  ⟨HG5.out.below HC.out.2.2.2,fun q hq=>(by cases hq),HC.out.1,(HC.out.2.2.2.block _ (lt_of_block HZ4.out)).trans HZ4.out,Below.more HB5.out HC.out.2.2.2 HB5.out.size,by have:=lt_of_block HZ4.out;have:=HC.out.2.1;omega,by
   have h1:=HB4.out;have h2:=HC.out.2.1;have h3:=HC.out.2.2.1;have h4:=HB5.out.size
   omega⟩
 have HX0:=Lib.hid (HX.out.below HP0.out.bel)
 have c13:=HX0.out.c13
 have H93:=Lib.hid (sorted93 HX0.out.map)
 have HA6:=Lib.hid (alloc_below wc (.cells #[.map (some mb)] 99))
 clear HC HG5 HZ4 HB5 HX5 HR5 HQ HKP
 go_upto_region 7 with (first
  | (go_at_call 138;refine(keys94 _ _).mono ?_;rintro e w6 ⟨rfl,rfl⟩)
  | (go_at_call 94;refine H93.out.mono ?_;rintro e w6 ⟨⟨v6,rfl,hO6⟩,hb6'⟩;obtain⟨p6,c6,K,rfl,hK6,hR6⟩:=keysRow hO6))
 have HP6:=Lib.hid ((HP0.out.below (Below.more HA6.out hb6' HA6.out.size)).more hK6)
 have HR6:=Lib.hid hR6
 have HNK:Hid (s.fr.keys.length+1≤(freeL s).length):=Lib.hid (by unfold needS at hN;omega)
 have HK5:=Lib.hid s.fr.keys_le
 obtain⟨nk,hnk⟩:∃nk,s.fr.keys.length=nk:=⟨_,rfl⟩
 have HNE:=Lib.hid hnk
 rw [hnk] at HR6 HNK HK5 ⊢
 clear hb6' hO6 hK6 hR6 hnk c13 H93 HA6 HP0
 go_loopw [42] (fun iv wr=>∃i:Nat,i≤nk∧iv = .int .i64 (i:Int)∧Hid (Pln w wr b4 b6 b7 b8 bt pt bf r s.g.lv (kT s (freeL s) i) ((freeL s).drop i) (kW s (freeL s) i) K)) (fun iv _=>nk - (RowKit.intOf iv).toNat)
 case atStart=>exact⟨0,by omega,by go_num,HP6⟩
 case round=>
  obtain⟨i,hin,rfl,HP⟩:=hrel
  by_cases hlt:i<nk
  ·have hd:decide ((i:Int)<(nk:Int))=true:=decide_eq_true (by omega)
   have hi4:(i:Int)<(nk:Int):=by omega
   have HI:=Lib.hid hlt
   have hkk:nk≤512:=HK5.out
   obtain⟨bk,cs,hp,hmem,hci⟩:=HR6.out i hlt
   subst hp
   have kc:wr.cell? ⟨bk,i,none⟩=some (.int .i64 ((s.fr.keys.getD i 0:Nat):Int)):=by rw [cell_of_row _ _ _ _ _ _ (HP.out.kr _ hmem)];exact hci
   obtain⟨dt,hdt⟩:=key_data (f:=s.fr) (i:=i) (by rw [HNE.out];exact hlt)
   obtain⟨ky,hky⟩:∃ky,s.fr.keys.getD i 0=ky:=⟨_,rfl⟩
   obtain⟨fx,hfx⟩:∃fx,(freeL s).getD i 0=fx:=⟨_,rfl⟩
   have hkL:ky<512:=by
    have h1:s.fr.keys.getD i 0∈s.fr.keys:=by rw [List.getD_eq_getElem?_getD,List.getElem?_eq_getElem (by rw [HNE.out];exact hlt)];exact List.getElem_mem _
    rw [hky] at h1
    exact(Pgs.mem_keys.1 h1).1
   have hpgI:=free_ok (i:=i) hr hpg (by have:=HNK.out;omega)
   have hdc:(freeL s).drop i=fx :: (freeL s).drop (i+1):=by rw [←hfx];exact drop_cons (by have:=HNK.out;omega)
   have hTs:kT s (freeL s) (i+1)=Tb.updN (kT s (freeL s) i) ky fx:=by rw [←hky,←hfx];rfl
   have hWs:kW s (freeL s) (i+1)=kW s (freeL s) i++[(fx,dt)]:=by rw [kW_succ,hfx,hky];rw [hky] at hdt;rw [hdt];rfl
   rw [hky] at kc hdt
   rw [hfx] at hpgI
   have HGA:Hid (∀u,Pln w u b4 b6 b7 b8 bt pt bf r s.g.lv (kT s (freeL s) i) ((freeL s).drop i) (kW s (freeL s) i) K→Calls Tryz.prog 137 #[.string (strB dt),.pointer (some ⟨b8,0,none⟩),.pointer (some ⟨b6,0,none⟩)] u fun e w'=>e = .returned (.int .i64 (fx:Int))∧Pln w w' b4 b6 b7 b8 bt pt bf r s.g.lv (kT s (freeL s) i) ((freeL s).drop (i+1)) (kW s (freeL s) (i+1)) K):=Lib.hid fun u hu=>by
    rw [hdc] at hu
    refine(gather_any hu.ga dt (by rw [kW_len];omega)).mono ?_
    rintro e w' ⟨rfl,h1,h2⟩
    rw [←hWs] at h1
    exact⟨rfl,hu.gather h1 h2⟩
   have HSE:Hid (∀u,Pln w u b4 b6 b7 b8 bt pt bf r s.g.lv (kT s (freeL s) i) ((freeL s).drop (i+1)) (kW s (freeL s) (i+1)) K→Calls Tryz.prog 139 #[.pointer (some ⟨pt,0,none⟩),.int .i64 (ky:Int),.int .i64 (fx:Int)] u fun e w'=>e = .returned (.int .i64 0)∧Pln w w' b4 b6 b7 b8 bt pt bf r s.g.lv (kT s (freeL s) (i+1)) ((freeL s).drop (i+1)) (kW s (freeL s) (i+1)) K):=Lib.hid fun u hu=>by
    refine(Tb.set_in hu.st.tab ky fx hkL hpgI).mono ?_
    rintro e w' ⟨rfl,h1,h2⟩
    rw [←hTs] at h1
    exact⟨rfl,hu.table h1 h2⟩
   have HRD:Hid (∀u,Below w.heap.size w u→u.cell? ⟨g,13,none⟩=some (.map (some mb))∧(Instr.lookup 99 (.map (some mb)) (.int .i64 (ky:Int)) false).run Tryz.prog u = .ok (.agg #[.string (strB dt)]) u):=Lib.hid fun u hu=>⟨(HX.out.below hu).c13,(HX.out.below hu).map.look1 ky dt hdt⟩
   have hPD:=HP.out.below (Below.refl _ _).drew
   have k8:wr.cell? ⟨bt,8,none⟩=some (.pointer (some ⟨pt,0,none⟩)):=HP.out.st.cell 8 _ rfl
   obtain⟨m13,mlk⟩:=HRD.out wr HP.out.bel
   obtain⟨m13d,mlkd⟩:=HRD.out wr.drew hPD.bel
   clear hdc hTs hWs hpgI hdt hky hfx hkL hci hmem
   obtain⟨DS,hDS⟩:∃DS,strB dt=DS:=⟨_,rfl⟩
   rw [hDS] at HGA mlk mlkd HRD
   clear hDS
   have hfc:=field_cont DS
   go_upto_region 9 with fail
   go_region_held3 (fun u=>u.cell? ⟨bt,8,none⟩=some (.pointer (some ⟨pt,0,none⟩))∧u.cell? ⟨g,13,none⟩=some (.map (some mb))∧(Instr.lookup 99 (.map (some mb)) (.int .i64 (ky:Int)) false).run Tryz.prog u = .ok (.agg #[.string DS]) u) ((first
     | exact⟨k8,m13d,mlkd⟩
     | exact⟨hP8.st.cell 8 _ rfl,HRD.out _ hP8.bel⟩
     | exact⟨hP7.st.cell 8 _ rfl,HRD.out _ hP7.bel⟩
     | go_keep)) (first
     | (go_at_call 137;refine(HGA.out _ hPD).mono ?_;rintro e w7 ⟨rfl,hP7⟩)
     | (go_at_call 139;refine(HSE.out _ hP7).mono ?_;rintro e w8 ⟨rfl,hP8⟩))
   go_wp2_with fail
   go_roundw
   case rel=>exact⟨i+1,by have:=HI.out;omega,by go_num,Lib.hid hP8⟩
   case measure=>have:=HI.out;simp [RowKit.intOf];omega
  ·have hd:decide ((i:Int)<(nk:Int))=false:=decide_eq_false (by omega)
   have hd5:decide (i<nk)=false:=decide_eq_false (by omega)
   have hi:i=nk:=by omega
   have HP1:=HP.out
   rw [hi] at HP1
   obtain⟨T,hT⟩:∃T,kT s (freeL s) nk=T:=⟨_,rfl⟩
   obtain⟨F1,hF1⟩:∃F1,(freeL s).drop nk=F1:=⟨_,rfl⟩
   obtain⟨ps1,hps1⟩:∃ps1,kW s (freeL s) nk=ps1:=⟨_,rfl⟩
   rw [hT,hF1,hps1] at HP1
   have HT:=Lib.hid hT
   have HF1:=Lib.hid hF1
   have HPS1:=Lib.hid hps1
   have HP2:=Lib.hid HP1
   clear hT hF1 hps1 HP1 hi HP hlt hin HR6 HP6
   go_wp2_with fail
   go_loopw [60] (fun iv wr=>∃j:Nat,j≤4∧iv = .int .i64 (j:Int)∧Hid (Pln w wr b4 b6 b7 b8 bt pt bf r (bL s.g.lv T j) T F1 ps1 K)) (fun iv _=>4 - (RowKit.intOf iv).toNat)
   case atStart=>exact⟨0,by omega,by go_num,HP2⟩
   case round=>
    obtain⟨j,hj4,rfl,HP⟩:=hrel
    have hz4:(j:Int)≤4:=by omega
    by_cases hlt:j<4
    ·have hd:decide ((j:Int)<4)=true:=decide_eq_true (by omega)
     have hd6:(0:Int)≤(j:Int):=by omega
     have hd7:(j:Int)<4:=by omega
     have HI:=Lib.hid hlt
     have HBA:=Lib.hid (Tb.bare_in HP.out.st.tab j hlt)
     have k8:wr.cell? ⟨bt,8,none⟩=some (.pointer (some ⟨pt,0,none⟩)):=HP.out.st.cell 8 _ rfl
     have fz:∀i,wr.frozen? ⟨bt,i,none⟩=false:=fun i=>frozen_of_row _ _ i _ _ HP.out.st.box
     have kj:wr.cell? ⟨bt,4+j,none⟩=some (.int .i64 (bL s.g.lv T j j:Nat)):=HP.out.st.cell (4+j) _ (by rcases (show j=0∨j=1∨j=2∨j=3 by omega) with rfl | rfl | rfl | rfl <;> rfl)
     cases hba:Tb.bareB T j with
     | true=>
      rw [hba] at HBA
      have HS2:Hid (bL s.g.lv T (j+1)=Tb.updN (bL s.g.lv T j) j 0):=Lib.hid (by show (if _ then _ else _)=_;rw [hba];rfl)
      clear hba hlt
      go_wp2_with (go_at_call 140;refine HBA.out.mono ?_;rintro e w7 ⟨rfl,rfl⟩)
      go_roundw
      case rel=>exact⟨j+1,by have:=HI.out;omega,by go_num,by rw [HS2.out];exact Lib.hid (HP.out.leaf j 0 HI.out)⟩
      case measure=>have:=HI.out;simp [RowKit.intOf];omega
     | false=>
      rw [hba] at HBA
      have HS2:Hid (bL s.g.lv T (j+1)=bL s.g.lv T j):=Lib.hid (by show (if _ then _ else _)=_;rw [hba];rfl)
      clear hba hlt
      go_wp2_with (go_at_call 140;refine HBA.out.mono ?_;rintro e w7 ⟨rfl,rfl⟩)
      go_roundw
      case rel=>exact⟨j+1,by have:=HI.out;omega,by go_num,by rw [HS2.out];exact HP⟩
      case measure=>have:=HI.out;simp [RowKit.intOf];omega
    ·have hd:decide ((j:Int)<4)=false:=decide_eq_false (by omega)
     have hi:j=4:=by omega
     have HP1:=HP.out
     rw [hi] at HP1
     obtain⟨lv2,hlv2⟩:∃lv2,bL s.g.lv T 4=lv2:=⟨_,rfl⟩
     rw [hlv2] at HP1
     have HLV2:=Lib.hid hlv2
     have HP3:=Lib.hid HP1
     have HMV:=Lib.hid (moved_any (HX.out.below HP1.bel))
     obtain⟨M,hM⟩:∃M,movL s=M:=⟨_,rfl⟩
     have HM:=Lib.hid hM
     rw [hM] at HMV
     clear hlv2 HP1 hi HP hlt hj4 HP2 hM
     go_upto_region 18 with (go_at_call 132;refine HMV.out.mono ?_;rintro e w9 ⟨⟨v9,rfl,hO9⟩,hb9⟩;obtain⟨p9,c9,K9,rfl,hK9,hR9⟩:=keysRow hO9)
     have HP4:=Lib.hid ((HP3.out.below hb9).more hK9)
     have HR9:=Lib.hid hR9
     have HNM:Hid (M.length+1≤F1.length):=Lib.hid (by
      rw [←HF1.out,List.length_drop,←HM.out]
      unfold needS at hN
      have:=HNE.out
      omega)
     have HM4:Hid (∀i,i<M.length→M.getD i 0<4):=Lib.hid fun i hi=>by
      have h1:M.getD i 0∈M:=by rw [List.getD_eq_getElem?_getD,List.getElem?_eq_getElem hi];exact List.getElem_mem _
      obtain⟨x,hx⟩:∃x,M.getD i 0=x:=⟨_,rfl⟩
      rw [hx] at h1 ⊢
      rw [←HM.out] at h1
      unfold movL Tb.mems at h1
      rw [List.mem_filter,List.mem_range] at h1
      exact h1.1
     have HML:Hid (M.length≤4):=Lib.hid (by rw [←HM.out];exact movL_len s)
     obtain⟨nm,hnm⟩:∃nm,M.length=nm:=⟨_,rfl⟩
     have HNMM:=Lib.hid hnm
     rw [hnm] at HR9 HNM HM4 HML ⊢
     clear hnm hb9 hO9 hK9 hR9 HMV HP3
     go_loopw [74] (fun iv wr=>∃i:Nat,i≤nm∧iv = .int .i64 (i:Int)∧Hid (Pln w wr b4 b6 b7 b8 bt pt bf r (mL lv2 M F1 i) T (F1.drop i) (ps1++mW T M F1 i) K9)) (fun iv _=>nm - (RowKit.intOf iv).toNat)
     case atStart=>exact⟨0,by omega,by go_num,by show Hid (Pln w w9 b4 b6 b7 b8 bt pt bf r lv2 T (F1.drop 0) (ps1++[]) K9);rw [List.append_nil,List.drop_zero];exact HP4⟩
     case round=>
      obtain⟨i,hin,rfl,HP⟩:=hrel
      have hz4:(i:Int)≤(nm:Int):=by omega
      by_cases hlt:i<nm
      ·have hd:decide ((i:Int)<(nm:Int))=true:=decide_eq_true (by omega)
       have hi4:(i:Int)<(nm:Int):=by omega
       have hn4:(nm:Int)≤4:=by have:=HML.out;omega
       have HI:=Lib.hid hlt
       obtain⟨bk,cs,hp,hmem,hci⟩:=HR9.out i hlt
       subst hp
       have kc:wr.cell? ⟨bk,i,none⟩=some (.int .i64 ((M.getD i 0:Nat):Int)):=by rw [cell_of_row _ _ _ _ _ _ (HP.out.kr _ hmem)];exact hci
       obtain⟨mx,hmx⟩:∃mx,M.getD i 0=mx:=⟨_,rfl⟩
       obtain⟨fx,hfx⟩:∃fx,F1.getD i 0=fx:=⟨_,rfl⟩
       have hm4:=HM4.out i hlt
       have hdc:F1.drop i=fx :: F1.drop (i+1):=by rw [←hfx];exact drop_cons (by have:=HNM.out;omega)
       have hWs:ps1++mW T M F1 (i+1)=(ps1++mW T M F1 i)++[(fx,Tb.fours (Tb.leafF T mx) 128)]:=by rw [mW_succ,hfx,hmx,List.append_assoc]
       have hLs:mL lv2 M F1 (i+1)=Tb.updN (mL lv2 M F1 i) mx fx:=by rw [←hmx,←hfx];rfl
       rw [hmx] at kc hm4
       have hm5:(mx:Int)<4:=by omega
       have hm6:(0:Int)≤(mx:Int):=by omega
       have hpl:(ps1++mW T M F1 i).length≤4096:=by
        rw [List.length_append,mW_len,←HPS1.out,kW_len]
        have:=HK5.out
        have:=HML.out
        omega
       have HLF:=Lib.hid (Tb.leaf_in HP.out.st.tab mx hm4)
       obtain⟨dt,hdt⟩:∃dt,Tb.fours (Tb.leafF T mx) 128=dt:=⟨_,rfl⟩
       rw [hdt] at HLF hWs
       have HGA:Hid (∀u,Pln w u b4 b6 b7 b8 bt pt bf r (mL lv2 M F1 i) T (F1.drop i) (ps1++mW T M F1 i) K9→Calls Tryz.prog 137 #[.string (strB dt),.pointer (some ⟨b8,0,none⟩),.pointer (some ⟨b6,0,none⟩)] u fun e w'=>e = .returned (.int .i64 (fx:Int))∧Pln w w' b4 b6 b7 b8 bt pt bf r (mL lv2 M F1 i) T (F1.drop (i+1)) (ps1++mW T M F1 (i+1)) K9):=Lib.hid fun u hu=>by
        rw [hdc] at hu
        refine(gather_any hu.ga dt hpl).mono ?_
        rintro e w' ⟨rfl,h1,h2⟩
        rw [←hWs] at h1
        exact⟨rfl,hu.gather h1 h2⟩
       have HLV:Hid (∀u,Pln w u b4 b6 b7 b8 bt pt bf r (mL lv2 M F1 i) T (F1.drop (i+1)) (ps1++mW T M F1 (i+1)) K9→Pln w (u.setCell ⟨bt,4+mx,none⟩ (.int .i64 (fx:Int))) b4 b6 b7 b8 bt pt bf r (mL lv2 M F1 (i+1)) T (F1.drop (i+1)) (ps1++mW T M F1 (i+1)) K9):=Lib.hid fun u hu=>by
        rw [hLs];exact hu.leaf mx fx hm4
       have HCL:Hid (∀u,Pln w u b4 b6 b7 b8 bt pt bf r (mL lv2 M F1 i) T (F1.drop (i+1)) (ps1++mW T M F1 (i+1)) K9→(∃v,u.cell? ⟨bt,4+mx,none⟩=some (.int .i64 v))∧u.frozen? ⟨bt,4+mx,none⟩=false):=Lib.hid fun u hu=>
        ⟨⟨_,hu.st.cell (4+mx) (.int .i64 ((mL lv2 M F1 i mx:Nat):Int)) (by rcases (show mx=0∨mx=1∨mx=2∨mx=3 by omega) with rfl | rfl | rfl | rfl <;> rfl)⟩,frozen_of_row _ _ _ _ _ hu.st.box⟩
       have k8:wr.cell? ⟨bt,8,none⟩=some (.pointer (some ⟨pt,0,none⟩)):=HP.out.st.cell 8 _ rfl
       clear hdc hWs hLs hpl hmx hfx hci hmem hlt hin hdt
       go_wp2_with (first
        | (go_at_call 141;refine HLF.out.mono ?_;rintro e w7 ⟨⟨pL,cL,rfl,hB7,hc1,hc2⟩,hb7⟩;have hcv:=hB7.conv cL;have hP7:=HP.out.below hb7)
        | (go_at_call 137;refine(HGA.out _ hP7).mono ?_;rintro e w8 ⟨rfl,hP8⟩;obtain⟨⟨v8,k48⟩,f48⟩:=HCL.out _ hP8))
       go_roundw
       case rel=>exact⟨i+1,by have:=HI.out;omega,by go_num,Lib.hid (HLV.out _ hP8)⟩
       case measure=>have:=HI.out;simp [RowKit.intOf];omega
      ·have hd:decide ((i:Int)<(nm:Int))=false:=decide_eq_false (by omega)
       have hd5:decide (i<nm)=false:=decide_eq_false (by omega)
       have hi:i=nm:=by omega
       have HP1:=HP.out
       rw [hi] at HP1
       obtain⟨fd,hfd⟩:∃fd,F1.getD nm 0=fd:=⟨_,rfl⟩
       have hdc:F1.drop nm=fd :: F1.drop (nm+1):=by rw [←hfd];exact drop_cons (by have:=HNM.out;omega)
       rw [hdc] at HP1
       obtain⟨lv3,hlv3⟩:∃lv3,mL lv2 M F1 nm=lv3:=⟨_,rfl⟩
       obtain⟨L3,hL3⟩:∃L3,F1.drop (nm+1)=L3:=⟨_,rfl⟩
       obtain⟨ps3,hps3⟩:∃ps3,ps1++mW T M F1 nm=ps3:=⟨_,rfl⟩
       rw [hlv3,hL3,hps3] at HP1
       have HFD:=Lib.hid hfd
       have HLV3:=Lib.hid hlv3
       have HPS3:=Lib.hid hps3
       have HP5:=Lib.hid HP1
       obtain⟨o7,c7,hf7⟩:=HP1.ga.fr
       have HTK:=Lib.hid (takeP_any hf7)
       have k8:wr.cell? ⟨b8,0,none⟩=some (.func (.func 136) #[] #[.pointer (some ⟨b7,0,none⟩)]):=by rw [cell_of_row _ _ _ _ _ _ HP1.ga.x8];rfl
       clear hfd hlv3 hL3 hps3 hdc HP1 hi HP hlt hin HR9 HP4 hf7
       go_upto_region 23 with (go_at_call 136;refine HTK.out.mono ?_;rintro e w10 ⟨rfl,hF10,hO10⟩;have hP10:=HP5.out.take hF10 hO10;have k2:w10.cell? ⟨bt,2,none⟩=some (.int .i64 r.dr):=hP10.st.cell 2 _ rfl;have f2:w10.frozen? ⟨bt,2,none⟩=false:=frozen_of_row _ _ 2 _ _ hP10.st.box)
       have HP6:Hid (Pln w (w10.setCell ⟨bt,2,none⟩ (.int .i64 (fd:Int))) b4 b6 b7 b8 bt pt bf { r with dr:=(fd:Int) } lv3 T L3 ps3 K9):=Lib.hid (hP10.state (by rw [←stA_dir];exact heap_setCell_same _ bt 2 _ 98 _ hP10.st.box) (Only.setCell bt 2 _ w10))
       clear hP10 k2 f2 hF10 hO10 HTK k8 HP5
       generalize w10.setCell ⟨bt,2,none⟩ (.int .i64 (fd:Int))=w11 at *
       have HPG:=Lib.hid (pagesS_any HP6.out.st)
       go_upto_region 24 with (go_at_call 142;refine HPG.out.mono ?_;rintro e w12 ⟨⟨gu,bu,rfl,hgu,hbu,hS12⟩,hb12⟩;have hP12:=HP6.out.below hb12;have k9:w12.cell? ⟨bt,9,none⟩=some (.pointer none):=hP12.st.cell 9 _ rfl;have f9:w12.frozen? ⟨bt,9,none⟩=false:=frozen_of_row _ _ 9 _ _ hP12.st.box)
       have hO13:Only bt w12 (w12.setCell ⟨bt,9,none⟩ (.pointer (some ⟨gu,0,none⟩))):=Only.setCell bt 9 _ w12
       have hbt:bt<w11.heap.size:=HP6.out.st.lt
       have HG13:=Lib.hid (hP12.only hO13)
       have HS13:Hid (Stt (w12.setCell ⟨bt,9,none⟩ (.pointer (some ⟨gu,0,none⟩))) bt pt (some ⟨gu,0,none⟩) { r with dr:=(fd:Int) } lv3 T):=Lib.hid ⟨heap_setCell_same _ bt 9 _ 98 _ hP12.st.box,HG13.out.2.2.2⟩
       have HU13:=Lib.hid (hS12.only hO13 (by omega) (by omega))
       have HNE4:=Lib.hid hP12.ne
       clear hO13 hbt k9 f9 hP12 hS12 hb12 HPG
       generalize w12.setCell ⟨bt,9,none⟩ (.pointer (some ⟨gu,0,none⟩))=w13 at *
       obtain⟨k0,k1,k2,k3,k4,k5,k6,k7,k8,k9⟩:=HS13.out.ten
       have HEN:=Lib.hid (enc_O lv3 HU13.out)
       go_upto_region 25 with (go_at_call 143;refine HEN.out.mono ?_;rintro e w14 ⟨⟨pD,nD,cD,xD,rfl,hB14⟩,hb14⟩)
       clear k0 k1 k2 k3 k4 k5 k6 k7 k8 k9 HEN
       have HG14:=Lib.hid (HG13.out.1.below hb14)
       obtain⟨v6,hv6,ho6⟩:=HG14.out.wr
       have HS14:=Lib.hid (HS13.out.below hb14)
       have HZ14:=Lib.hid ((hb14.block _ (lt_of_block HG13.out.2.1)).trans HG13.out.2.1)
       have HB14:=Lib.hid (Below.more HG13.out.2.2.1 hb14 HG13.out.2.2.1.size)
       have HU14:=Lib.hid (HU13.out.below hb14)
       have HV14:=Lib.hid hv6
       have HO14:Hid (w14.drew.ownsRow w.heap.size 191 2 v6 ps3.length (wrs ps3)):=Lib.hid (own_below ho6 (Below.refl _ _).drew)
       have HO14w:=Lib.hid ho6
       have hcv:=(hB14.below (Below.refl _ _).drew).conv cD
       have hpn:ps3.length+1≤4096:=by
        rw [←HPS3.out,List.length_append,mW_len,←HPS1.out,kW_len]
        have:=HK5.out
        have:=HML.out
        omega
       have HPN:=Lib.hid hpn
       have HRD:Hid (∀u:World,u.heap[bt]?=w14.heap[bt]?→u.heap[b6]?=w14.heap[b6]?→u.cell? ⟨bt,0,none⟩=some (.int .i64 r.ep)∧u.cell? ⟨bt,1,none⟩=some (.int .i64 r.pg)∧u.cell? ⟨bt,2,none⟩=some (.int .i64 (fd:Int))∧u.cell? ⟨bt,3,none⟩=some (.int .i64 r.wd)∧u.cell? ⟨bt,4,none⟩=some (.int .i64 (lv3 0:Nat))∧u.cell? ⟨bt,5,none⟩=some (.int .i64 (lv3 1:Nat))∧u.cell? ⟨bt,6,none⟩=some (.int .i64 (lv3 2:Nat))∧u.cell? ⟨bt,7,none⟩=some (.int .i64 (lv3 3:Nat))∧u.cell? ⟨bt,8,none⟩=some (.pointer (some ⟨pt,0,none⟩))∧u.cell? ⟨bt,9,none⟩=some (.pointer (some ⟨gu,0,none⟩))∧u.cell? ⟨b6,0,none⟩=some v6):=Lib.hid fun u h1 h2=>by
        have hs:u.heap[bt]?=_:=h1.trans HS14.out.box
        have h6:=h2.trans HV14.out
        exact⟨by rw [cell_of_row _ _ _ _ _ _ hs];rfl,by rw [cell_of_row _ _ _ _ _ _ hs];rfl,by rw [cell_of_row _ _ _ _ _ _ hs];rfl,by rw [cell_of_row _ _ _ _ _ _ hs];rfl,by rw [cell_of_row _ _ _ _ _ _ hs];rfl,by rw [cell_of_row _ _ _ _ _ _ hs];rfl,by rw [cell_of_row _ _ _ _ _ _ hs];rfl,by rw [cell_of_row _ _ _ _ _ _ hs];rfl,by rw [cell_of_row _ _ _ _ _ _ hs];rfl,by rw [cell_of_row _ _ _ _ _ _ hs];rfl,by rw [cell_of_row _ _ _ _ _ _ h6];rfl⟩
       obtain⟨k0,k1,k2,k3,k4,k5,k6,k7,k8,k9,k10⟩:=HRD.out w14 rfl rfl
       clear hv6 ho6 hb14 hpn HG13 HS13 HU13
       obtain⟨DS,hDS⟩:∃DS,strB (dirO lv3 (pgsM { r with dr:=(fd:Int) } lv3 T).1)=DS:=⟨_,rfl⟩
       rw [hDS] at hcv
       have HDS:=Lib.hid hDS
       clear hDS hB14
       obtain⟨i0,hi,hz0,hz1,hz2⟩:=info_parts Tryz.info191
       have HI:=Lib.hid hi
       have HZ0:=Lib.hid hz0
       have HZ1:=Lib.hid hz1
       have HZ2:=Lib.hid hz2
       have HONE:Hid (∀u∈[Value.int .i64 (fd:Int),.string DS],u.oneCell'=true):=Lib.hid (by intro u hu;simp at hu;rcases hu with rfl | rfl <;> rfl)
       have HNN:Hid ((0:Nat)<1):=Lib.hid (by omega)
       have H63:Hid (ps3.length+1≤maxLen):=Lib.hid (by have:=HPN.out;unfold maxLen;omega)
       have HBY:Hid ((ps3.length+1)*24≤140737488355328):=Lib.hid (by have:=HPN.out;omega)
       have HBS:Hid (∀o:Obj,w.heap.size≤(w14.drew.alloc o).heap.size):=Lib.hid fun o=>by have h1:=HB14.out.size;have h2:w14.drew.heap.size=w14.heap.size:=rfl;simp;omega
       have HGK:=Lib.hid (fun (o:Obj) (W:World) (hg:(w14.alloc o).drew.grownBy W v6.ownBlock)=>
        (⟨grow_keep HO14w.out hg HS14.out.box (by decide),grow_keep HO14w.out hg HV14.out (by decide),(Ten.mk ((grow_keep HO14w.out hg HZ14.out (by decide)).trans HZ14.out)).cells⟩:W.heap[bt]?=w14.heap[bt]?∧W.heap[b6]?=w14.heap[b6]?∧_))
       have q1:bt≠b4:=Ne.symm HNE4.out
       have q2:b6≠b4:=cells_ne HV14.out HZ14.out (by decide)
       have HDEF:Hid (plT s=T∧plL s=lv3∧plD s=fd∧kW s (freeL s) s.fr.keys.length++mW (plT s) (movL s) (plF s) (movL s).length=ps3):=Lib.hid (by
        have e1:plT s=T:=by unfold plT;rw [HNE.out];exact HT.out
        have e2:plF s=F1:=by unfold plF;rw [HNE.out];exact HF1.out
        refine⟨e1,?_,?_,?_⟩
        ·unfold plL;rw [e1,e2,HLV2.out,HM.out,HNMM.out];exact HLV3.out
        ·unfold plD;rw [e2,HM.out,HNMM.out];exact HFD.out
        ·rw [e1,e2,HNE.out,HM.out,HNMM.out,HPS1.out];exact HPS3.out)
       have HHI:Hid (w.heap.size≤pt∧w.heap.size≤gu∧w.heap.size≤bu∧w.heap.size≤b4):=Lib.hid (by
        have h1:=HP6.out.bel.size
        have h2:=HP6.out.hi
        exact⟨h2.2.2,by omega,by omega,h2.1⟩)
       have HFIN:Hid (∀(o:Obj) (W:World) (gN cap:Nat),(w14.alloc o).drew.grownBy W v6.ownBlock→W.ownsRow w.heap.size 191 2 (.slice (some ⟨gN,0,none⟩) (ps3.length+1) cap) (ps3.length+1) (wrs ps3++[.int .i64 (fd:Int),.string DS]) →
         ((((((((((W.setCell ⟨b4,0,none⟩ (.int .i64 r.ep)).setCell ⟨b4,1,none⟩ (.int .i64 r.pg)).setCell ⟨b4,2,none⟩ (.int .i64 (fd:Int))).setCell ⟨b4,3,none⟩ (.int .i64 r.wd)).setCell ⟨b4,4,none⟩ (.int .i64 (lv3 0:Nat))).setCell ⟨b4,5,none⟩ (.int .i64 (lv3 1:Nat))).setCell ⟨b4,6,none⟩ (.int .i64 (lv3 2:Nat))).setCell ⟨b4,7,none⟩ (.int .i64 (lv3 3:Nat))).setCell ⟨b4,8,none⟩ (.pointer (some ⟨pt,0,none⟩))).setCell ⟨b4,9,none⟩ (.pointer (some ⟨gu,0,none⟩))).heap[b4]?=some (.cells (stA { r with dr:=(fd:Int) } lv3 (some ⟨pt,0,none⟩) (some ⟨gu,0,none⟩)) 98 (0,0)) ∧
         PlanR s r w ((((((((((W.setCell ⟨b4,0,none⟩ (.int .i64 r.ep)).setCell ⟨b4,1,none⟩ (.int .i64 r.pg)).setCell ⟨b4,2,none⟩ (.int .i64 (fd:Int))).setCell ⟨b4,3,none⟩ (.int .i64 r.wd)).setCell ⟨b4,4,none⟩ (.int .i64 (lv3 0:Nat))).setCell ⟨b4,5,none⟩ (.int .i64 (lv3 1:Nat))).setCell ⟨b4,6,none⟩ (.int .i64 (lv3 2:Nat))).setCell ⟨b4,7,none⟩ (.int .i64 (lv3 3:Nat))).setCell ⟨b4,8,none⟩ (.pointer (some ⟨pt,0,none⟩))).setCell ⟨b4,9,none⟩ (.pointer (some ⟨gu,0,none⟩))) (.returned (.tuple #[.agg (stA { r with dr:=(fd:Int) } lv3 (some ⟨pt,0,none⟩) (some ⟨gu,0,none⟩)),.slice (some ⟨gN,0,none⟩) (ps3.length+1) cap]))∧Below w.heap.size w ((((((((((W.setCell ⟨b4,0,none⟩ (.int .i64 r.ep)).setCell ⟨b4,1,none⟩ (.int .i64 r.pg)).setCell ⟨b4,2,none⟩ (.int .i64 (fd:Int))).setCell ⟨b4,3,none⟩ (.int .i64 r.wd)).setCell ⟨b4,4,none⟩ (.int .i64 (lv3 0:Nat))).setCell ⟨b4,5,none⟩ (.int .i64 (lv3 1:Nat))).setCell ⟨b4,6,none⟩ (.int .i64 (lv3 2:Nat))).setCell ⟨b4,7,none⟩ (.int .i64 (lv3 3:Nat))).setCell ⟨b4,8,none⟩ (.pointer (some ⟨pt,0,none⟩))).setCell ⟨b4,9,none⟩ (.pointer (some ⟨gu,0,none⟩)))):=Lib.hid (by
        intro o W gN cap hg hown
        have h4:W.heap[b4]?=some (.cells zeroSt 98 (0,0)):=(grow_keep HO14w.out hg HZ14.out (by decide)).trans HZ14.out
        have hb:Below w.heap.size w W:=((HB14.out.alloc HB14.out.size o).drew).grown hg (Nat.le_trans HB14.out.size (by show _≤(w14.alloc o).heap.size;simp)) (fun k e=>(HO14w.out.lt k e).1)
        have hT:=HS14.out.tab.same (grow_keep HO14w.out hg HS14.out.tab.row (by decide))
        obtain⟨cur,hcur⟩:=own_head HU14.out.row rfl
        have hU:=HU14.out.same (grow_keep HO14w.out hg HU14.out.box (by decide)) (grow_keep HO14w.out hg hcur (by decide))
        obtain⟨cur2,hcur2⟩:=own_head hU.row rfl
        obtain⟨cur3,hcur3⟩:=own_head hown rfl
        obtain⟨d1,d2,d3,d4⟩:=HDEF.out
        have hO:Only b4 W ((((((((((W.setCell ⟨b4,0,none⟩ (.int .i64 r.ep)).setCell ⟨b4,1,none⟩ (.int .i64 r.pg)).setCell ⟨b4,2,none⟩ (.int .i64 (fd:Int))).setCell ⟨b4,3,none⟩ (.int .i64 r.wd)).setCell ⟨b4,4,none⟩ (.int .i64 (lv3 0:Nat))).setCell ⟨b4,5,none⟩ (.int .i64 (lv3 1:Nat))).setCell ⟨b4,6,none⟩ (.int .i64 (lv3 2:Nat))).setCell ⟨b4,7,none⟩ (.int .i64 (lv3 3:Nat))).setCell ⟨b4,8,none⟩ (.pointer (some ⟨pt,0,none⟩))).setCell ⟨b4,9,none⟩ (.pointer (some ⟨gu,0,none⟩))):=Ten.only ..
        have dr:planRt s r={ r with dr:=(fd:Int) }:=by unfold planRt;rw [d3]
        have du:plU s r=(pgsM { r with dr:=(fd:Int) } lv3 T).1:=by unfold plU;rw [dr,d2,d1]
        refine⟨Ten.chain ⟨h4⟩ _ _ _ _ _ _ _ _ _ _,⟨pt,gu,bu,_,by rw [dr,d2],HHI.out.1,HHI.out.2.1,HHI.out.2.2.1,?_,?_,?_⟩,hO.below hb hb.size HHI.out.2.2.2⟩
        ·rw [d1];exact hT.only hO (cells_ne hT.row h4 (by decide))
        ·rw [du];exact hU.only hO (cells_ne hU.box h4 (by decide)) (cells_ne hcur2 h4 (by decide))
        ·have hw:plW s r=ps3++[(fd,dirO lv3 (pgsM { r with dr:=(fd:Int) } lv3 T).1)]:=by unfold plW;rw [d4,d3,d2,du]
         rw [hw,List.length_append,wrs_snoc,HDS.out]
         exact own_other hown (fun k hk=>by cases hk;exact hO.block gN (lt_of_block hcur3) (cells_ne hcur3 h4 (by decide))))
       clear hi hz0 hz1 hz2
       go_region_held_law (fun u:World=>u.cell? ⟨bt,0,none⟩=some (.int .i64 r.ep)∧u.cell? ⟨bt,1,none⟩=some (.int .i64 r.pg)∧u.cell? ⟨bt,2,none⟩=some (.int .i64 (fd:Int))∧u.cell? ⟨bt,3,none⟩=some (.int .i64 r.wd)∧u.cell? ⟨bt,4,none⟩=some (.int .i64 (lv3 0:Nat))∧u.cell? ⟨bt,5,none⟩=some (.int .i64 (lv3 1:Nat))∧u.cell? ⟨bt,6,none⟩=some (.int .i64 (lv3 2:Nat))∧u.cell? ⟨bt,7,none⟩=some (.int .i64 (lv3 3:Nat))∧u.cell? ⟨bt,8,none⟩=some (.pointer (some ⟨pt,0,none⟩))∧u.cell? ⟨bt,9,none⟩=some (.pointer (some ⟨gu,0,none⟩))∧u.cell? ⟨b6,0,none⟩=some v6) ((first
        | with_reducible exact HRD.out _ hk1 hk2
        | with_reducible exact⟨(Ten.read q1 ..).trans kk0,(Ten.read q1 ..).trans kk1,(Ten.read q1 ..).trans kk2,(Ten.read q1 ..).trans kk3,(Ten.read q1 ..).trans kk4,(Ten.read q1 ..).trans kk5,(Ten.read q1 ..).trans kk6,(Ten.read q1 ..).trans kk7,(Ten.read q1 ..).trans kk8,(Ten.read q1 ..).trans kk9,(Ten.read q2 ..).trans kk10⟩
        | go_keep)) (first
        | (
          refine step_append_lies _ rfl (.tmp 108) (.tmp 115) 146 rfl w.heap.size 191 i0 (.agg #[.int .i64 0,.string ByteArray.empty]) 2 24 Tryz.underlying146 HI.out HZ0.out HZ1.out HZ2.out rfl (by decide) v6 ps3.length (wrs ps3) (by rfl) (World.ownsRow.alloc HO14.out _) ⟨_,0,none⟩ 1 1 [.int .i64 (fd:Int),.string DS] (by rfl) rfl (World.news_of_block (heap_alloc_new _ _)) HONE.out HNN.out H63.out HBY.out (HBS.out _) _ rfl ?_;intro gN cap2 w15 hown hgrow hat hlt
          obtain⟨hk1,hk2,⟨x0,x1,x2,x3,x4,x5,x6,x7,x8,x9⟩,xf⟩:=HGK.out _ _ hgrow
          obtain⟨kk0,kk1,kk2,kk3,kk4,kk5,kk6,kk7,kk8,kk9,kk10⟩:=HRD.out _ hk1 hk2))
       go_wp2_with fail
       have hF:=HFIN.out _ _ _ _ hgrow hown
       exact bodyPost_ret (Tb.results_row_tmp (p:=4) (u:=5) rfl _ _ b4 98 _ (0,0) _ rfl hF.1 Tryz.underlying98 rfl size98) rfl hF.2
end
end
end Go.Proofs.YtmbecjlioogbhaaGreatDoor
