/- Texts Mem to YText of this seat, laid into one. -/
import Derived.Laws.Rows
import Derived.Deep.QuietTactic
import Derived.BigQuiet
import Derived.Deep.CutBlock
import Derived.Deep.DeepCutAuto
import Derived.Deep.RegionWith
import Derived.Deep.RegionHeld3
import Derived.Lib.SliceRun
import Derived.StillTailTactics
import Derived.Lib.BitFns
import Derived.Lib.Strings
import Derived.Laws.CopyOwn
import Derived.Test.YtmbecjlioogbhaaGreatDoorM01
set_option linter.unusedVariables false
set_option linter.unusedSimpArgs false
set_option linter.constructorNameAsVariable false
namespace Go.Proofs.YtmbecjlioogbhaaGreatDoor
section
open Go.RowKit
def Sec (w:World) (v:Value) (s:List Nat):Prop:=
 ∃b c cur fr,v = .slice (some ⟨b,0,none⟩) 128 c∧w.heap[b]?=some (.cells cur 5 fr)∧s.length=128∧(∀d∈s,d<256)∧(∀i,i<128→cur[i]?=some (.int .u8 ((s.getD i 0:Nat):Int)))∧128≤c∧c≤9223372036854775807
theorem Sec.bys {w:World} {v:Value} {s:List Nat} (h:Sec w v s):∃b c,v = .slice (some ⟨b,0,none⟩) 128 c∧Bys w (some ⟨b,0,none⟩) 128 s∧b<w.heap.size∧128≤c∧c≤9223372036854775807:=by
 obtain⟨b,c,cur,fr,rfl,hh,hl,hd,hc,h1,h2⟩:=h
 exact⟨b,c,rfl,⟨hl,hd,fun _=>⟨b,0,rfl,fun i hi=>by rw [Nat.zero_add,cell_of_row w b i _ _ _ hh];exact hc i hi⟩⟩,lt_of_block hh,h1,h2⟩
theorem Sec.len {w:World} {v:Value} {s:List Nat} (h:Sec w v s):s.length=128:=by obtain⟨b,c,cur,fr,_,_,hl,_⟩:=h;exact hl
theorem Sec.dig {w:World} {v:Value} {s:List Nat} (h:Sec w v s):∀d∈s,d<256:=by obtain⟨b,c,cur,fr,_,_,_,hd,_⟩:=h;exact hd
theorem Sec.of_own {w:World} {base:Nat} {v:Value} {s:List Nat} (h:w.ownsRow base 5 1 v 128 (u8s s)) (hd:∀d∈s,d<256):Sec w v s:=by
 have hl:s.length=128:=by have:=h.1;rw [u8s_len] at this;omega
 rcases h.2 with ⟨_,h0⟩ | ⟨g,cap,cur,rfl,hb,hh,h1,h2,h3,h4⟩
 ·omega
 ·refine⟨g,cap,cur,(0,0),rfl,hh,hl,hd,fun i hi=>?_,h1,by unfold maxLen at h2;omega⟩
  have h5:=u8s_get s i (by omega)
  rw [←h4,List.getElem?_take,if_pos (by omega)] at h5
  simpa using h5
theorem Sec.one {w:World} {v:Value} {s:List Nat} (h:Sec w v s):v.oneCell'=true:=by obtain⟨b,c,cur,fr,rfl,_⟩:=h;rfl
structure Chg (F F':List Nat) (w w':World):Prop where
 os:w'.os=w.os
 tape:w'.tape=w.tape
 output:w'.output=w.output
 size:w.heap.size≤w'.heap.size
 block:∀k,k<w.heap.size→k∉F→w'.heap[k]?=w.heap[k]?
 fresh:∀k∈F',k∈F∨w.heap.size≤k
theorem Chg.refl (F:List Nat) (w:World):Chg F F w w:=⟨rfl,rfl,rfl,Nat.le_refl _,fun _ _ _=>rfl,fun _ h=>.inl h⟩
theorem Chg.trans {F F' F2:List Nat} {a b c:World} (h:Chg F F' a b) (k:Chg F' F2 b c):Chg F F2 a c:=
 ⟨k.os.trans h.os,k.tape.trans h.tape,k.output.trans h.output,Nat.le_trans h.size k.size,
  fun i hi hF=>(k.block i (Nat.lt_of_lt_of_le hi h.size) (fun e=>(h.fresh i e).elim hF (fun h2=>by omega))).trans (h.block i hi hF),
  fun i hi=>(k.fresh i hi).elim (fun e=>h.fresh i e) (fun e=>.inr (Nat.le_trans h.size e))⟩
theorem Chg.of_below {F:List Nat} {w w':World} (h:Below w.heap.size w w'):Chg F F w w':=⟨h.os,h.tape,h.output,h.size,fun k hk _=>h.block k hk,fun _ h=>.inl h⟩
theorem Chg.below {F F':List Nat} {B:Nat} {a w w':World} (h:Chg F F' w w') (hb:Below B a w) (hB:B≤w.heap.size) (hF:∀k∈F,B≤k):Below B a w':=
 hb.trans ⟨h.os,h.tape,h.output,h.size,fun k hk=>h.block k (by omega) (fun e=>by have:=hF k e;omega)⟩
theorem Chg.drew {F F':List Nat} {w w':World} (h:Chg F F' w w'):Chg F F' w w'.drew:=⟨h.os,h.tape,h.output,h.size,h.block,h.fresh⟩
theorem Chg.setCell {F:List Nat} {g i:Nat} (hg:g∈F) (v:Value) (w:World):Chg F F w (w.setCell ⟨g,i,none⟩ v):=
 have h:=(Below.refl 0 w).setCell (p:=⟨g,i,none⟩) (Nat.zero_le _) v
 ⟨h.os,h.tape,h.output,h.size,fun k _ hF=>Below.heap_setCell w _ v k (fun e=>hF (by rw [e];exact hg)),fun _ h=>.inl h⟩
def Typed (w:World) (F:List Nat):Prop:=∀k∈F,∃cs t fr,w.heap[k]?=some (.cells cs t fr)∧(t=89∨t=71∨t=151)
theorem Chg.keep {F F':List Nat} {w w':World} (h:Chg F F' w w') (hT:Typed w F) {b t:Nat} {cs:Array Value} {fr:Nat × Nat} (hb:w.heap[b]?=some (.cells cs t fr)) (ht:t≠89∧t≠71∧t≠151):w'.heap[b]?=some (.cells cs t fr):=by
 rw [h.block b (lt_of_block hb) (fun e=>by
  obtain⟨cs2,t2,fr2,h2,h3⟩:=hT b e
  rw [hb] at h2
  cases h2
  exact h3.elim ht.1 (fun h4=>h4.elim ht.2.1 ht.2.2)),hb]
theorem Sec.chg {F F':List Nat} {w w':World} {v:Value} {s:List Nat} (hs:Sec w v s) (h:Chg F F' w w') (hT:Typed w F):Sec w' v s:=by
 obtain⟨b,c,cur,fr,rfl,hh,hr⟩:=hs
 exact⟨b,c,cur,fr,rfl,h.keep hT hh (by decide),hr⟩
theorem Sec.below {w w':World} {v:Value} {s:List Nat} (hs:Sec w v s) (h:Below w.heap.size w w'):Sec w' v s:=by
 obtain⟨b,c,cur,fr,rfl,hh,hr⟩:=hs
 exact⟨b,c,cur,fr,rfl,(h.block b (lt_of_block hh)).trans hh,hr⟩
def vAt (vs:List Value) (i:Nat):Value:=vs.getD i (.slice none 0 0)
structure Secs (w:World) (vs:List Value) (L:List (List Nat)):Prop where
 len:vs.length=L.length
 at_:∀i,i<L.length→Sec w (vAt vs i) (sec L i)
theorem vAt_get {vs:List Value} {i:Nat} (h:i<vs.length):vs[i]?=some (vAt vs i):=by
 unfold vAt;rw [List.getD_eq_getElem?_getD,List.getElem?_eq_getElem h];rfl
theorem vAt_set {vs:List Value} {i:Nat} (v:Value) (h:i<vs.length) (j:Nat):vAt (vs.set i v) j=if i=j then v else vAt vs j:=by
 unfold vAt
 rw [List.getD_eq_getElem?_getD,List.getD_eq_getElem?_getD,List.getElem?_set]
 split
 ·rename_i e;subst e;simp
 ·rfl
theorem Secs.set {w:World} {vs:List Value} {L:List (List Nat)} (h:Secs w vs L) {i:Nat} (hi:i<L.length) {v:Value} {s:List Nat} (hs:Sec w v s):Secs w (vs.set i v) (L.set i s):=by
 refine⟨by rw [List.length_set,List.length_set];exact h.len,fun j hj=>?_⟩
 rw [List.length_set] at hj
 rw [vAt_set v (by rw [h.len];exact hi),sec_set s hi]
 split
 ·exact hs
 ·exact h.at_ j hj
theorem Secs.chg {F F':List Nat} {w w':World} {vs:List Value} {L:List (List Nat)} (hs:Secs w vs L) (h:Chg F F' w w') (hT:Typed w F):Secs w' vs L:=⟨hs.len,fun i hi=>(hs.at_ i hi).chg h hT⟩
theorem Secs.below {w w':World} {vs:List Value} {L:List (List Nat)} (hs:Secs w vs L) (h:Below w.heap.size w w'):Secs w' vs L:=⟨hs.len,fun i hi=>(hs.at_ i hi).below h⟩
theorem Secs.one {w:World} {vs:List Value} {L:List (List Nat)} (h:Secs w vs L):∀v∈vs,v.oneCell'=true:=by
 intro v hv
 obtain⟨i,hi,e⟩:=List.getElem_of_mem hv
 have h1:=(h.at_ i (by rw [←h.len];exact hi)).one
 rw [show vAt vs i=v by have:=vAt_get hi;rw [List.getElem?_eq_getElem hi,e] at this;exact(Option.some.inj this).symm] at h1
 exact h1
abbrev Vw:=Nat × Value
def vw (l:List Vw) (k:Nat):Vw:=l.getD k (0,.slice none 0 0)
def flat (l:List Vw):List Value:=l.flatMap fun x=>[.int .i64 (x.1:Int),x.2]
theorem flat_snoc (l:List Vw) (x:Vw):flat (l++[x])=flat l++[.int .i64 (x.1:Int),x.2]:=by
 unfold flat;simp
theorem flat_get (l:List Vw) (k:Nat) (h:k<l.length):(flat l)[k*2]?=some (.int .i64 ((vw l k).1:Int))∧(flat l)[k*2+1]?=some (vw l k).2:=by
 induction l generalizing k with
 | nil=>cases h
 | cons a l ih=>
  cases k with
  | zero=>exact⟨rfl,rfl⟩
  | succ k=>
   have h2:=ih k (by simpa using h)
   have e:flat (a :: l)=[.int .i64 (a.1:Int),a.2]++flat l:=rfl
   rw [e,List.getElem?_append_right (by simp;omega),List.getElem?_append_right (by simp;omega)]
   rw [show (k+1)*2 - [Value.int .i64 (a.1:Int),a.2].length=k*2 by simp;omega,show (k+1)*2+1 - [Value.int .i64 (a.1:Int),a.2].length=k*2+1 by simp;omega]
   exact h2
structure Vws (w:World) (vs:List Vw) (l:List Wr):Prop where
 len:vs.length=l.length
 at_:∀k,k<l.length→(vw vs k).1=(wr l k).1∧Sec w (vw vs k).2 (wr l k).2
theorem Vws.chg {F F':List Nat} {w w':World} {vs:List Vw} {l:List Wr} (hs:Vws w vs l) (h:Chg F F' w w') (hT:Typed w F):Vws w' vs l:=⟨hs.len,fun i hi=>⟨(hs.at_ i hi).1,(hs.at_ i hi).2.chg h hT⟩⟩
theorem Vws.below {w w':World} {vs:List Vw} {l:List Wr} (hs:Vws w vs l) (h:Below w.heap.size w w'):Vws w' vs l:=⟨hs.len,fun i hi=>⟨(hs.at_ i hi).1,(hs.at_ i hi).2.below h⟩⟩
theorem Vws.nil_ (w:World):Vws w [] []:=⟨rfl,fun k hk=>absurd hk (Nat.not_lt_zero k)⟩
theorem vw_left (l r:List Vw) (k:Nat) (h:k<l.length):vw (l++r) k=vw l k:=by
 unfold vw;rw [List.getD_eq_getElem?_getD,List.getD_eq_getElem?_getD,List.getElem?_append_left h]
theorem vw_last (l:List Vw) (x:Vw):vw (l++[x]) l.length=x:=by
 unfold vw;rw [List.getD_eq_getElem?_getD,List.getElem?_append_right (Nat.le_refl _)];simp
theorem Vws.snoc {w:World} {vs:List Vw} {l:List Wr} (h:Vws w vs l) (i:Nat) {v:Value} {s:List Nat} (hs:Sec w v s):Vws w (vs++[(i,v)]) (l++[(i,s)]):=by
 refine⟨by rw [List.length_append,List.length_append,h.len];rfl,fun k hk=>?_⟩
 rw [List.length_append] at hk
 rcases Nat.lt_or_ge k l.length with h1 | h1
 ·rw [vw_left _ _ _ (by rw [h.len];exact h1),wr_left _ _ _ h1];exact h.at_ k h1
 ·obtain rfl:k=l.length:=by simp at hk;omega
  rw [wr_last,←h.len,vw_last]
  exact⟨rfl,hs⟩
structure Dk0 (w:World) (g bO cO bL cL:Nat) (vW:Value) (os ls:List Value) (ws:List Vw) (m:Dsk):Prop where
 hd:w.heap[g]?=some (.cells #[.slice (some ⟨bO,0,none⟩) m.out.length cO,.slice (some ⟨bL,0,none⟩) m.out.length cL,vW,.int .i64 m.fuse,.bool m.down,.int .i64 (m.done:Int)] 89 (0,0))
 ro:w.ownsRow 0 71 1 (.slice (some ⟨bO,0,none⟩) m.out.length cO) m.out.length os
 rl:w.ownsRow 0 71 1 (.slice (some ⟨bL,0,none⟩) m.out.length cL) m.out.length ls
 rw_:w.ownsRow 0 151 2 vW m.row.length (flat ws)
 so:Secs w os m.out
 sl:Secs w ls m.last
 sw:Vws w ws m.row
 nil_:m.row=[]→vW = .slice none 0 0
 ne:bO≠bL
 ok:Ok m
def foot (g bO bL:Nat) (vW:Value):List Nat:=g :: bO :: bL :: vW.ownBlock.toList
def Dk (w:World) (g:Nat) (F:List Nat) (m:Dsk):Prop:=∃bO cO bL cL vW os ls ws,Dk0 w g bO cO bL cL vW os ls ws m∧F=foot g bO bL vW
def Went (F:List Nat) (g:Nat) (m:Dsk) (w w':World):Prop:=∃F',Dk w' g F' m∧Chg F F' w w'
theorem own_head {w:World} {base E m n:Nat} {v:Value} {xs:List Value} {g:Nat} (h:w.ownsRow base E m v n xs) (hg:v.ownBlock=some g):∃cur,w.heap[g]?=some (.cells cur E (0,0)):=by
 rcases h.2 with ⟨rfl,_⟩ | ⟨g',cap,cur,rfl,_,hh,_⟩
 ·simp [Value.ownBlock] at hg
 ·simp [Value.ownBlock] at hg
  subst hg
  exact⟨cur,hh⟩
theorem Dk0.typed {w:World} {g bO cO bL cL:Nat} {vW:Value} {os ls:List Value} {ws:List Vw} {m:Dsk} (h:Dk0 w g bO cO bL cL vW os ls ws m):Typed w (foot g bO bL vW):=by
 intro k hk
 unfold foot at hk
 simp only [List.mem_cons,Option.mem_toList] at hk
 rcases hk with rfl | rfl | rfl | hk
 ·exact⟨_,_,_,h.hd,.inl rfl⟩
 ·obtain⟨cur,hc⟩:=own_head h.ro rfl;exact⟨_,_,_,hc,.inr (.inl rfl)⟩
 ·obtain⟨cur,hc⟩:=own_head h.rl rfl;exact⟨_,_,_,hc,.inr (.inl rfl)⟩
 ·obtain⟨cur,hc⟩:=own_head h.rw_ hk;exact⟨_,_,_,hc,.inr (.inr rfl)⟩
theorem Dk.typed {w:World} {g:Nat} {F:List Nat} {m:Dsk} (h:Dk w g F m):Typed w F:=by
 obtain⟨bO,cO,bL,cL,vW,os,ls,ws,h,rfl⟩:=h;exact h.typed
theorem Dk.lt {w:World} {g:Nat} {F:List Nat} {m:Dsk} (h:Dk w g F m):∀k∈F,k<w.heap.size:=fun k hk=>by
 obtain⟨cs,t,fr,h1,_⟩:=h.typed k hk;exact lt_of_block h1
theorem Dk.ok {w:World} {g:Nat} {F:List Nat} {m:Dsk} (h:Dk w g F m):Ok m:=by
 obtain⟨bO,cO,bL,cL,vW,os,ls,ws,h,rfl⟩:=h;exact h.ok
theorem own_other {w w':World} {base E m n:Nat} {v:Value} {xs:List Value} (h:w.ownsRow base E m v n xs) (hb:∀g,v.ownBlock=some g→w'.heap[g]?=w.heap[g]?):w'.ownsRow base E m v n xs:=by
 refine⟨h.1,?_⟩
 rcases h.2 with h2 | ⟨g,cap,cur,rfl,hb2,hg,hr⟩
 ·exact .inl h2
 ·exact .inr ⟨g,cap,cur,rfl,hb2,(hb g rfl).trans hg,hr⟩
theorem Dk0.stay {w w':World} {F F':List Nat} {g bO cO bL cL:Nat} {vW:Value} {os ls:List Value} {ws:List Vw} {m:Dsk} (h:Dk0 w g bO cO bL cL vW os ls ws m) (hc:Chg F F' w w') (hT:Typed w F) (hF:∀k∈foot g bO bL vW,k∉F):Dk0 w' g bO cO bL cL vW os ls ws m:=by
 have hs:∀k∈foot g bO bL vW,w'.heap[k]?=w.heap[k]?:=fun k hk=>hc.block k (by
  obtain⟨cs,t,fr,h1,_⟩:=h.typed k hk;exact lt_of_block h1) (hF k hk)
 refine⟨(hs g (by simp [foot])).trans h.hd,own_other h.ro (fun k hk=>hs k ?_),own_other h.rl (fun k hk=>hs k ?_),own_other h.rw_ (fun k hk=>hs k ?_),h.so.chg hc hT,h.sl.chg hc hT,h.sw.chg hc hT,h.nil_,h.ne,h.ok⟩
 ·cases hk;simp [foot]
 ·cases hk;simp [foot]
 ·simp [foot,hk]
theorem Dk.stay {w w':World} {F F1 F':List Nat} {g:Nat} {m:Dsk} (h:Dk w g F1 m) (hc:Chg F F' w w') (hT:Typed w F) (hF:∀k∈F1,k∉F):Dk w' g F1 m:=by
 obtain⟨bO,cO,bL,cL,vW,os,ls,ws,h,rfl⟩:=h
 exact⟨bO,cO,bL,cL,vW,os,ls,ws,h.stay hc hT hF,rfl⟩
theorem Dk.below {w w':World} {F:List Nat} {g:Nat} {m:Dsk} (h:Dk w g F m) (hb:Below w.heap.size w w'):Dk w' g F m:=
 h.stay (Chg.of_below (F:=[]) hb) (fun k hk=>by cases hk) (fun k _ hk=>by cases hk)
theorem Went.refl {w:World} {F:List Nat} {g:Nat} {m:Dsk} (h:Dk w g F m):Went F g m w w:=⟨F,h,Chg.refl _ _⟩
theorem Went.below {w w':World} {F:List Nat} {g:Nat} {m:Dsk} (h:Dk w g F m) (hb:Below w.heap.size w w'):Went F g m w w':=⟨F,h.below hb,Chg.of_below hb⟩
end
section
open Go.RowKit
structure Only (g:Nat) (w w':World):Prop where
 os:w'.os=w.os
 tape:w'.tape=w.tape
 output:w'.output=w.output
 size:w.heap.size≤w'.heap.size
 block:∀k,k<w.heap.size→k≠g→w'.heap[k]?=w.heap[k]?
theorem Only.refl (g:Nat) (w:World):Only g w w:=⟨rfl,rfl,rfl,Nat.le_refl _,fun _ _ _=>rfl⟩
theorem Only.trans {g:Nat} {a b c:World} (h:Only g a b) (k:Only g b c):Only g a c:=
 ⟨k.os.trans h.os,k.tape.trans h.tape,k.output.trans h.output,Nat.le_trans h.size k.size,fun i hi hg=>(k.block i (Nat.lt_of_lt_of_le hi h.size) hg).trans (h.block i hi hg)⟩
theorem Only.of_below {g:Nat} {w w':World} (h:Below w.heap.size w w'):Only g w w':=⟨h.os,h.tape,h.output,h.size,fun k hk _=>h.block k hk⟩
theorem Only.below {g B:Nat} {a w w':World} (h:Only g w w') (hb:Below B a w) (hB:B≤w.heap.size) (hg:B≤g):Below B a w':=
 hb.trans ⟨h.os,h.tape,h.output,h.size,fun k hk=>h.block k (by omega) (by omega)⟩
theorem Only.setCell (g i:Nat) (v:Value) (w:World):Only g w (w.setCell ⟨g,i,none⟩ v):=
 have h:=(Below.refl 0 w).setCell (p:=⟨g,i,none⟩) (Nat.zero_le _) v
 ⟨h.os,h.tape,h.output,h.size,fun k _ hg=>Below.heap_setCell w _ v k (fun e=>hg (by rw [e]))⟩
theorem Only.drew {g:Nat} {w w':World} (h:Only g w w'):Only g w w'.drew:=⟨h.os,h.tape,h.output,h.size,h.block⟩
def Row5 (w:World) (g N:Nat) (us:List Nat):Prop:=w.ownsRow 0 5 1 (.slice (some ⟨g,0,none⟩) N N) N (u8s us)
theorem Row5.len {w:World} {g N:Nat} {us:List Nat} (h:Row5 w g N us):us.length=N:=by
 have:=h.1;rw [u8s_len] at this;omega
theorem Row5.head {w:World} {g N:Nat} {us:List Nat} (h:Row5 w g N us):∃cur,w.heap[g]?=some (.cells cur 5 (0,0)):=by
 rcases h.2 with ⟨h,_⟩ | ⟨g',cap,cur,h,_,hh,_⟩
 ·cases h
 ·cases h;exact⟨cur,hh⟩
theorem Row5.lt {w:World} {g N:Nat} {us:List Nat} (h:Row5 w g N us):g<w.heap.size:=by
 obtain⟨cur,h⟩:=h.head
 exact lt_of_block h
theorem Row5.same {w w':World} {g N:Nat} {us:List Nat} (h:Row5 w g N us) (hb:w'.heap[g]?=w.heap[g]?):Row5 w' g N us:=
 own_other h fun k e=>by simp [Value.ownBlock] at e;subst e;exact hb
theorem Row5.below {w w':World} {g N:Nat} {us:List Nat} (h:Row5 w g N us) (hb:Below w.heap.size w w'):Row5 w' g N us:=own_below h hb
theorem Row5.cell {w:World} {g N:Nat} {us:List Nat} (h:Row5 w g N us) (i:Nat) (hi:i<N):w.cell? ⟨g,i,none⟩=some (.int .u8 ((us.getD i 0:Nat):Int)):=
 (World.ownsRow.cellAt h i (by omega)).trans (u8s_get us i (by rw [h.len];exact hi))
theorem Row5.fz {w:World} {g N:Nat} {us:List Nat} (h:Row5 w g N us) (i:Nat):w.frozen? ⟨g,i,none⟩=false:=World.ownsRow.frozenAt h i
theorem Row5.put {w:World} {g N:Nat} {us:List Nat} (h:Row5 w g N us) (i x:Nat):Row5 (w.setCell ⟨g,i,none⟩ (.int .u8 (x:Int))) g N (us.set i x):=by
 have h2:=(World.ownsRow.stored h i (.int .u8 (x:Int))).1
 have e:u8s (us.set i x)=(u8s us).set i (.int .u8 (x:Int)):=by unfold u8s;rw [List.map_set]
 unfold Row5
 rw [e];exact h2
theorem Row5.bys {w:World} {g N:Nat} {us:List Nat} (h:Row5 w g N us) (hd:∀x∈us,x<256):Bys w (some ⟨g,0,none⟩) N us:=Bys.own h hd
theorem alloc_below (u:World) (o:Obj):Below u.heap.size u (u.alloc o):=(Below.refl _ _).alloc (Nat.le_refl _) _
theorem Below.more {B:Nat} {w a b:World} (h:Below B w a) (k:Below a.heap.size a b) (hB:B≤a.heap.size):Below B w b:=h.trans (Below.mono k hB)
theorem Only.then {g B:Nat} {a b c:World} (h:Only g a b) (hb:Below B b c) (hB:a.heap.size≤B):Only g a c:=
 ⟨hb.os.trans h.os,hb.tape.trans h.tape,hb.output.trans h.output,Nat.le_trans h.size hb.size,fun k hk hg=>(hb.block k (by omega)).trans (h.block k hk hg)⟩
theorem Bys.only {w w':World} {g n:Nat} {p:Option Addr} {bs:List Nat} (h:Bys w p n bs) (ho:Only g w w') (hp:∀b o,p=some ⟨b,o,none⟩→b≠g):Bys w' p n bs:=
 ⟨h.len,h.dig,fun hn=>by
  obtain⟨b,o,e,hc⟩:=h.inn hn
  have hlt:=World.block_lt_of_cell? w _ (hc 0 hn)
  exact⟨b,o,e,fun i hi=>(World.cell?_of_block (ho.block b hlt (hp b o e))).trans (hc i hi)⟩⟩
end
section
set_option maxRecDepth 20000
namespace Bi
open Go.RowKit
structure Sat (w:World) (g b n:Nat) (f:Nat→Bool):Prop where
 le:n≤2048
 sub:Sub n f
 ne:g≠b
 box:w.heap[g]?=some (.cells #[.int .i64 (n:Int),.slice (some ⟨b,0,none⟩) (need n) (need n)] 247)
 row:Row5 w b (need n) (rowF f (need n))
section
variable {w w':World} {g b n:Nat} {f:Nat→Bool}
theorem Sat.glt (h:Sat w g b n f):g<w.heap.size:=lt_of_block h.box
theorem Sat.blt (h:Sat w g b n f):b<w.heap.size:=h.row.lt
theorem Sat.c0 (h:Sat w g b n f):w.cell? ⟨g,0,none⟩=some (.int .i64 (n:Int)):=by rw [cell_of_row _ _ _ _ _ _ h.box];rfl
theorem Sat.c1 (h:Sat w g b n f):w.cell? ⟨g,1,none⟩=some (.slice (some ⟨b,0,none⟩) (need n) (need n)):=by rw [cell_of_row _ _ _ _ _ _ h.box];rfl
theorem Sat.byte (h:Sat w g b n f) (i:Nat) (hi:i<need n):w.cell? ⟨b,i,none⟩=some (.int .u8 (byt f i:Int)):=by rw [h.row.cell i hi,rowF_getD _ _ _ hi]
theorem Sat.same (h:Sat w g b n f) (h1:w'.heap[g]?=w.heap[g]?) (h2:w'.heap[b]?=w.heap[b]?):Sat w' g b n f:=⟨h.le,h.sub,h.ne,h1.trans h.box,h.row.same h2⟩
theorem Sat.below (h:Sat w g b n f) (hb:Below w.heap.size w w'):Sat w' g b n f:=h.same (hb.block g h.glt) (hb.block b h.blt)
theorem Sat.only {k:Nat} (h:Sat w g b n f) (hk:Only k w w') (h1:g≠k) (h2:b≠k):Sat w' g b n f:=h.same (hk.block g h.glt h1) (hk.block b h.blt h2)
theorem Sat.set (h:Sat w g b n f) {i:Nat} (hi:i<n) (v:Bool):Sat (w.setCell ⟨b,i / 8,none⟩ (.int .u8 (byt (upd f i v) (i / 8):Int))) g b n (upd f i v):=
 ⟨h.le,h.sub.upd hi v,h.ne,(Below.heap_setCell w _ _ g (by show g≠b;exact h.ne)).trans h.box,by
  have h2:=h.row.put (i / 8) (byt (upd f i v) (i / 8))
  rw [rowF_upd] at h2;exact h2⟩
theorem Sat.bys (h:Sat w g b n f):Bys w (some ⟨b,0,none⟩) (need n) (rowF f (need n)):=h.row.bys (rowF_dig _ _)
theorem Sat.drew (h:Sat w g b n f):Sat w.drew g b n f:=h.same rfl rfl
end
theorem need_le {n:Nat} (h:n≤2048):need n≤256:=by unfold need;omega
theorem may_any (x:Int) (w:World):Calls Tryz.prog 212 #[.int .i64 x] w fun e w'=>e = .returned (.bool (decide (0≤x) && decide (x≤2048)))∧w=w':=by
 by_cases h:0≤x
 ·have hd:decide (0≤x)=true:=decide_eq_true h
  go_enter Tryz.func212,Tryz.ntmps212
  go_wp2_with fail
  go_ret
  exact⟨by simp [hd],rfl⟩
 ·have hd:decide (0≤x)=false:=decide_eq_false h
  go_enter Tryz.func212,Tryz.ntmps212
  go_wp2_with fail
  go_ret
  exact⟨by simp [hd],rfl⟩
theorem need_any (n:Nat) (w:World) (h:n≤4096):Calls Tryz.prog 213 #[.int .i64 (n:Int)] w fun e w'=>e = .returned (.int .i64 (need n:Int))∧w=w':=by
 go_enter Tryz.func213,Tryz.ntmps213
 go_wp2_with fail
 go_ret
 refine⟨congrArg (fun z=>Ending.returned (.int .i64 z)) (?_:_=_),rfl⟩
 unfold need
 simp
 try omega
theorem bit_any (i:Nat) (w:World) (h:i≤4096):Calls Tryz.prog 206 #[.int .i64 (i:Int)] w fun e w'=>e = .returned (.int .u8 ((2 ^ (i % 8):Nat):Int))∧w=w':=by
 have h8:∀r:Fin 8,(2:Int) ^ r.val % 256=((2 ^ r.val:Nat):Int):=by decide
 have hm:i % 8<8:=Nat.mod_lt _ (by decide)
 go_enter Tryz.func206,Tryz.ntmps206
 go_wp2_with fail
 go_ret
 exact⟨congrArg (fun z=>Ending.returned (.int .u8 z)) (h8 ⟨i % 8,hm⟩),rfl⟩
theorem size_any {w:World} {g b n:Nat} {f:Nat→Bool} (h:Sat w g b n f):Calls Tryz.prog 180 #[.pointer (some ⟨g,0,none⟩)] w fun e w'=>e = .returned (.int .i64 (n:Int))∧w=w':=by
 have hc:=h.c0
 clear h
 go_enter Tryz.func180,Tryz.ntmps180
 go_wp2_with fail
 go_ret
 exact⟨rfl,rfl⟩
theorem reach_any {w:World} {g b n:Nat} {f:Nat→Bool} (h:Sat w g b n f) (x:Int):Calls Tryz.prog 205 #[.pointer (some ⟨g,0,none⟩),.int .i64 x] w fun e w'=>e = .returned (.bool (decide (0≤x) && decide (x<(n:Int))))∧w=w':=by
 have H:=Lib.hid h
 clear h
 by_cases h:0≤x
 ·have hd:decide (0≤x)=true:=decide_eq_true h
  go_enter Tryz.func205,Tryz.ntmps205
  go_wp2_with (go_at_call 180;refine(size_any H.out).mono ?_;rintro e w7 ⟨rfl,rfl⟩)
  go_ret
  exact⟨by simp [hd],rfl⟩
 ·have hd:decide (0≤x)=false:=decide_eq_false h
  go_enter Tryz.func205,Tryz.ntmps205
  go_wp2_with fail
  go_ret
  exact⟨by simp [hd],rfl⟩
end Bi
end
section
open Go.RowKit
def In (W:World):Type:={ w':World // Below W.heap.size W w' }
theorem In.some (W:World):Nonempty (In W):=⟨⟨W,Below.refl _ _⟩⟩
theorem region_in {P:Program} {id:Nat} {Q:Exit→Act→World→Prop} {a:Act} {w:World} {l:List Oper} (W:World) (hm:P.follows .mixedOrders=true) (hB:Region.lexB .any l.toArray=true) (hw:Below W.heap.size W w)
  (h:wpQuiet P l.toArray (fun w'=>∃s:In W,w'=s.1) (fun a'=>∀w',(∃s:In W,w'=s.1)→Q .normal a' w') l a):(Code.region id l.toArray true).wp P Q a w:=
 wp_region_quiet (C:=fun w'=>∃s:In W,w'=s.1) hm hB ⟨⟨_,hw.drew⟩,rfl⟩ (by simpa using h)
theorem Calls.quiet_in {P:Program} {f:FuncId} {args:Array Value} {W:World} {s:In W} {v:Value} (h:Calls P f args s.1 fun e w'=>e = .returned v∧Below s.1.heap.size s.1 w') :
  Calls P f args s.1 fun e w''=>e = .returned v∧∃t:In W,w''=t.1:=
 h.mono fun _ w' ⟨he,hb⟩=>⟨he,⟨w',s.2.trans (hb.mono s.2.size)⟩,rfl⟩
theorem Calls.quiet_in_same {P:Program} {f:FuncId} {args:Array Value} {W:World} {s:In W} {v:Value} (h:Calls P f args s.1 fun e w'=>e = .returned v∧s.1=w') :
  Calls P f args s.1 fun e w''=>e = .returned v∧∃t:In W,w''=t.1:=
 h.mono fun _ _ ⟨he,hb⟩=>⟨he,s,hb.symm⟩
end
section
set_option maxRecDepth 20000
namespace Bi
open Go.RowKit
def hasI (f:Nat→Bool) (x:Int):Bool:=decide (0≤x) && f x.toNat
theorem hasI_nat (f:Nat→Bool) (i:Nat):hasI f (i:Int)=f i:=by unfold hasI;simp
theorem hasI_out {f:Nat→Bool} {n:Nat} {x:Int} (hs:Sub n f) (h:¬ (0≤x∧x<(n:Int))):hasI f x=false:=by
 unfold hasI
 by_cases h0:0≤x
 ·rw [hs x.toNat (by omega),Bool.and_false]
 ·rw [decide_eq_false h0,Bool.false_and]
theorem need_get {n i:Nat} (h:i<n):i / 8<need n:=by unfold need;omega
theorem and_test (f:Nat→Bool) (i:Nat):(bits .and .u8 (byt f (i / 8):Int) ((2 ^ (i % 8):Nat):Int) != 0)=f i:=by
 have hp:2 ^ (i % 8)<256:=Nat.lt_of_lt_of_le (Nat.pow_lt_pow_right (by decide) (Nat.mod_lt i (by decide:0<8))) (by decide)
 have h0:0<2 ^ (i % 8):=Nat.pow_pos (by decide)
 rw [u8_and_nat _ _ (byt_lt f _) hp,byt_and]
 cases f i
 ·simp
 ·simp only [Bool.toNat_true,Nat.one_mul]
  generalize 2 ^ (i % 8)=z at *
  simp
  omega
theorem pow8_lt (i:Nat):2 ^ (i % 8)<256:=Nat.lt_of_lt_of_le (Nat.pow_lt_pow_right (by decide) (Nat.mod_lt i (by decide:0<8))) (by decide)
set_option maxHeartbeats 800000 in
theorem has_in {w:World} {g b n:Nat} {f:Nat→Bool} (h:Sat w g b n f) (i:Nat) (hi:i<n):Calls Tryz.prog 171 #[.pointer (some ⟨g,0,none⟩),.int .i64 (i:Int)] w fun e w'=>e = .returned (.bool (f i))∧Below w.heap.size w w':=by
 have H:=Lib.hid h
 have hd1:decide ((0:Int)≤(i:Int))=true:=decide_eq_true (by omega)
 have hd2:decide ((i:Int)<(n:Int))=true:=decide_eq_true (by omega)
 have hle:=h.le
 have hq:=need_get hi
 have hm:=need_le hle
 have l1:∀s:In w,s.1.cell? ⟨g,1,none⟩=some (.slice (some ⟨b,0,none⟩) (need n) (need n)):=fun s=>(H.out.below s.2).c1
 have l2:∀s:In w,s.1.cell? ⟨b,i / 8,none⟩=some (.int .u8 (byt f (i / 8):Int)):=fun s=>(H.out.below s.2).byte _ hq
 have HR:Hid (∀s:In w,Calls Tryz.prog 205 #[.pointer (some ⟨g,0,none⟩),.int .i64 (i:Int)] s.1 fun e w'=>e = .returned (.bool true)∧s.1=w'):=Lib.hid fun s=>by
  have:=reach_any (H.out.below s.2) (i:Int)
  rwa [hd1,hd2,Bool.and_true] at this
 have hdiv:(i:Int) / 8=((i / 8:Nat):Int):=by omega
 have ht:=and_test f i
 have hb:=byt_lt f (i / 8)
 have hp:=pow8_lt i
 clear h
 generalize byt f (i / 8)=y at *
 generalize hw2:(2 ^ (i % 8):Nat)=z at *
 have HB:Hid (∀s:In w,Calls Tryz.prog 206 #[.int .i64 (i:Int)] s.1 fun e w'=>e = .returned (.int .u8 (z:Int))∧s.1=w'):=Lib.hid fun s=>by
  have:=bit_any i s.1 (by omega)
  rwa [hw2] at this
 generalize i / 8=q at *
 generalize need n=m at *
 go_enter Tryz.func171,Tryz.ntmps171
 have hne:=In.some w
 go_upto_region 1 with fail
 refine region_in w (by kernel_rfl) (by kernel_rfl) (Below.refl _ _) ?_
 repeat (go_big_quiet_step ((first
  | (go_at_call 205;exact Calls.quiet_in_same (HR.out _))
  | (go_at_call 206;exact Calls.quiet_in_same (HB.out _)))))
 refine wpQuiet_nil ?_
 intro w12 hw'
 have hb12:Below w.heap.size w w12:=by
  obtain⟨⟨wz,hbz⟩,hw''⟩:=hw'
  subst hw''
  exact hbz
 clear hw'
 go_wp2_with fail
 go_ret
 exact⟨rfl,hb12⟩
set_option maxHeartbeats 800000 in
theorem has_out {w:World} {g b n:Nat} {f:Nat→Bool} (h:Sat w g b n f) (x:Int) (hx:¬ (0≤x∧x<(n:Int))):Calls Tryz.prog 171 #[.pointer (some ⟨g,0,none⟩),.int .i64 x] w fun e w'=>e = .returned (.bool false)∧Below w.heap.size w w':=by
 have HR:Hid (∀s:In w,Calls Tryz.prog 205 #[.pointer (some ⟨g,0,none⟩),.int .i64 x] s.1 fun e w'=>e = .returned (.bool false)∧s.1=w'):=Lib.hid fun s=>by
  have:=reach_any (h.below s.2) x
  have e:(decide (0≤x) && decide (x<(n:Int)))=false:=by
   by_cases h0:0≤x
   ·rw [decide_eq_false (show ¬ x<(n:Int) by omega),Bool.and_false]
   ·rw [decide_eq_false h0,Bool.false_and]
  rwa [e] at this
 clear h
 go_enter Tryz.func171,Tryz.ntmps171
 have hne:=In.some w
 go_upto_region 1 with fail
 refine region_in w (by kernel_rfl) (by kernel_rfl) (Below.refl _ _) ?_
 repeat (go_big_quiet_step ((go_at_call 205;exact Calls.quiet_in_same (HR.out _))))
 refine wpQuiet_nil ?_
 intro w12 hw'
 have hb12:Below w.heap.size w w12:=by
  obtain⟨⟨wz,hbz⟩,hw''⟩:=hw'
  subst hw''
  exact hbz
 clear hw'
 go_wp2_with fail
 go_ret
 exact⟨rfl,hb12⟩
theorem has_any {w:World} {g b n:Nat} {f:Nat→Bool} (h:Sat w g b n f) (x:Int):Calls Tryz.prog 171 #[.pointer (some ⟨g,0,none⟩),.int .i64 x] w fun e w'=>e = .returned (.bool (hasI f x))∧Below w.heap.size w w':=by
 by_cases hx:0≤x∧x<(n:Int)
 ·obtain⟨i,rfl⟩:=Int.eq_ofNat_of_zero_le hx.1
  rw [hasI_nat f i]
  exact has_in h i (by have:=hx.2;simp at this;omega)
 ·rw [hasI_out h.sub hx]
  exact has_out h x hx
def putI (n:Nat) (f:Nat→Bool) (x:Int):Nat→Bool:=if 0≤x∧x<(n:Int) then upd f x.toNat true else f
def newI (n:Nat) (f:Nat→Bool) (x:Int):Bool:=decide (0≤x∧x<(n:Int)) && !hasI f x
set_option maxHeartbeats 1600000 in
theorem put_new {w:World} {g b n:Nat} {f:Nat→Bool} (h:Sat w g b n f) (i:Nat) (hi:i<n) (hf:f i=false):Calls Tryz.prog 179 #[.pointer (some ⟨g,0,none⟩),.int .i64 (i:Int)] w fun e w'=>e = .returned (.bool true)∧Sat w' g b n (upd f i true)∧Only b w w':=by
 have hd1:decide ((0:Int)≤(i:Int))=true:=decide_eq_true (by omega)
 have hd2:decide ((i:Int)<(n:Int))=true:=decide_eq_true (by omega)
 have hle:=h.le
 have hq:=need_get hi
 have hm:=need_le hle
 have H:=Lib.hid h
 clear h
 go_enter Tryz.func179,Tryz.ntmps179
 go_wp2_with (go_at_call 205;refine(reach_any H.out _).mono ?_;rintro e w7 ⟨rfl,rfl⟩)
 refine(has_in H.out i hi).mono ?_
 rintro e w7 ⟨rfl,hb7⟩
 rw [hf]
 have H7:=Lib.hid (H.out.below hb7)
 have HB7:=Lib.hid hb7
 have l1:=H7.out.c1
 have l2:=H7.out.byte _ hq
 have fz:=H7.out.row.fz (i / 8)
 have hdiv:(i:Int) / 8=((i / 8:Nat):Int):=by omega
 have hb:=byt_lt f (i / 8)
 have hp:=pow8_lt i
 have hor:bits .or .u8 (byt f (i / 8):Int) ((2 ^ (i % 8):Nat):Int)=(byt (upd f i true) (i / 8):Int):=by rw [u8_or_nat _ _ hb hp,byt_or]
 have HS:=Lib.hid (H7.out.set hi true)
 have HO:Hid (Only b w (w7.setCell ⟨b,i / 8,none⟩ (.int .u8 (byt (upd f i true) (i / 8):Int)))):=Lib.hid ((Only.of_below HB7.out).trans (Only.setCell b _ _ w7))
 have hT:IntKind.i64.wrap (Int.tdiv (i:Int) 8)=((i / 8:Nat):Int):=by rw [Int.tdiv_eq_ediv_of_nonneg (by omega),IntKind.wrap_i64];omega
 have hT2:Int.tdiv (i:Int) 8=((i / 8:Nat):Int):=by rw [Int.tdiv_eq_ediv_of_nonneg (by omega)];omega
 have hT3:IntKind.i64.wrap ((i / 8:Nat):Int)=((i / 8:Nat):Int):=by rw [IntKind.wrap_i64];omega
 clear hb7 HB7 H7
 generalize byt (upd f i true) (i / 8)=y2 at *
 generalize byt f (i / 8)=y at *
 have HB:=Lib.hid (fun w=>bit_any i w (by omega))
 generalize hw2:(2 ^ (i % 8):Nat)=z at *
 generalize i / 8=q at *
 generalize need n=m at *
 go_wp2_with fail
 go_region_with (go_at_call 206;refine(HB.out _).mono ?_;rintro e w9 ⟨rfl,rfl⟩)
 all_goals
  go_wp2_with fail
  go_ret
  exact⟨rfl,HS.out.drew,HO.out.drew⟩
end Bi
end
section
set_option maxRecDepth 20000
namespace Bi
open Go.RowKit
def turned (t:Bool):Nat:=if t then 255 else 0
def ahead (f:Nat→Bool) (t:Bool) (i:Nat):Nat:=(byt f (i / 8) ^^^ turned t) / 2 ^ (i % 8)
end Bi
end
section
set_option maxRecDepth 20000
namespace Bi
open Go.RowKit
set_option maxHeartbeats 1600000 in
theorem clone_some (a:Addr) (n c:Nat) (bs:List Nat) (w:World) (hbig:n≤140737488355328) (hB:Bys w (some a) n bs) :
  Calls Tryz.prog 208 #[.slice (some a) n c] w fun e w'=>(∃p c',e = .returned (.slice p n c')∧Bys w' p n bs)∧Below w.heap.size w w':=by
 obtain⟨i0,hi,hz0,hz1,hz2⟩:=info_parts Tryz.info5
 have q37:∀(w:World) (a:Option Addr) (n c n' c':Nat),(binOp .eql 71 (.slice a n c) (.slice none n' c')).run Tryz.prog w = .ok (.bool a.isNone) w:=fun w a n c n' c'=>Lib.run_eql_slice_nil w _ _ a n c n' c' Tryz.underlying71
 have A:=Lib.hid hB
 have HL:Hid ((u8s bs).length=n*1):=Lib.hid (by rw [u8s_len,hB.len,Nat.mul_one])
 have HD:=Lib.hid hB.dig
 clear hB
 go_enter Tryz.func208,Tryz.ntmps208
 go_wp2_with (at_builtin;refine wpList_append_own _ rfl _ _ 71 rfl w.heap.size 5 i0 (.int .u8 0) 1 1 Tryz.underlying71 hi hz0 hz1 hz2 rfl (by decide) _ _ _ rfl (World.ownsRow_made w #[] 0 (Nat.le_refl _) (Nat.zero_le _) rfl) a n c (u8s bs) rfl ?qc1 ?qc2 ?qc3 ?qc4 ?qc5 ?qc6 ?_)
 case qc1=>exact HL.out
 case qc2=>
  intro j u hj
  have hjn:j<n:=by
   have h1:=(List.getElem?_eq_some_iff.1 hj).1
   have:=HL.out
   omega
  obtain⟨ad,e,hc⟩:=(A.out.below ((Below.refl _ w).alloc (Nat.le_refl _) (.cells #[] 5))).cells (by omega)
  cases e
  exact hc j u hj
 case qc3=>exact u8s_one bs
 case qc4=>unfold maxLen;omega
 case qc5=>omega
 case qc6=>simp
 intro v' w1 hown hgrow hnil
 have HB:=Lib.hid (((Below.refl _ w).alloc (Nat.le_refl _) (.cells #[] 5)).grown hgrow (by simp) (by intro k hk;simp [Value.ownBlock] at hk;omega))
 have hown2:w1.ownsRow w.heap.size 5 1 v' n (u8s bs):=by simpa using hown
 clear hown hgrow hnil
 obtain⟨p',c',rfl⟩:=own_slice hown2
 have HY:=Lib.hid (Bys.own hown2 HD.out)
 clear hown2
 go_wp2_with fail
 go_ret
 exact⟨⟨p',c',rfl,HY.out⟩,HB.out⟩
theorem strB_beq {xs ys:List Nat} (hx:∀x∈xs,x<256) (hy:∀x∈ys,x<256):((strB xs).toList == (strB ys).toList)=decide (xs=ys):=by
 by_cases h:xs=ys
 ·subst h;simp
 ·rw [decide_eq_false h,beq_eq_false_iff_ne]
  intro he
  rw [Go.Lib.toList_data,Go.Lib.toList_data] at he
  exact h (strB_inj hx hy he)
set_option maxHeartbeats 800000 in
theorem equal_any (p q:Option Addr) (n c m d:Nat) (xs ys:List Nat) (w:World) (hx:Bys w p n xs) (hy:Bys w q m ys) :
  Calls Tryz.prog 193 #[.slice p n c,.slice q m d] w fun e w'=>e = .returned (.bool (decide (xs=ys)))∧w=w':=by
 have h1:=hx.conv c
 have h2:=hy.conv d
 have he:((strB xs).toList == (strB ys).toList)=decide (xs=ys):=strB_beq hx.dig hy.dig
 clear hx hy
 generalize strB xs=X at *
 generalize strB ys=Y at *
 go_enter Tryz.func193,Tryz.ntmps193
 go_wp2_with fail
 go_ret
 exact⟨rfl,rfl⟩
theorem bytes_any {w:World} {g b n:Nat} {f:Nat→Bool} (h:Sat w g b n f):Calls Tryz.prog 182 #[.pointer (some ⟨g,0,none⟩)] w fun e w'=>(∃p c,e = .returned (.slice p (need n) c)∧Bys w' p (need n) (rowF f (need n)))∧Below w.heap.size w w':=by
 have l1:=h.c1
 have HC:=Lib.hid (clone_some ⟨b,0,none⟩ (need n) (need n) (rowF f (need n)) w (by have:=need_le h.le;omega) h.bys)
 clear h
 go_enter Tryz.func182,Tryz.ntmps182
 go_wp2_with (go_at_call 208;refine HC.out.mono ?_;rintro e w7 ⟨⟨p,c,rfl,hB⟩,hb⟩)
 go_ret
 exact⟨⟨p,c,rfl,hB⟩,hb⟩
theorem bytes_nil (w:World):Calls Tryz.prog 182 #[.pointer none] w fun e w'=>e = .returned (.slice none 0 0)∧w=w':=by
 go_enter Tryz.func182,Tryz.ntmps182
 go_wp2_with fail
 go_ret
 exact⟨rfl,rfl⟩
def gap (f:Nat→Bool):Nat→Bool:=fun i=>!f i
def endF (f:Nat→Bool) (n i:Nat):Nat:=(nxt (gap f) n i).getD n
end Bi
end
section
set_option maxRecDepth 20000
namespace Bi
open Go.RowKit
theorem byt_cut (f:Nat→Bool) (n:Nat):byt f (n / 8) % 2 ^ (n % 8)=byt (cut n f) (n / 8):=by
 apply Nat.eq_of_testBit_eq
 intro k
 rw [Nat.testBit_mod_two_pow,byt_bit,byt_bit]
 unfold cut
 by_cases hk:k<8
 ·rw [decide_eq_true hk,Bool.true_and,Bool.true_and]
  by_cases h:k<n % 8
  ·rw [decide_eq_true h,decide_eq_true (show 8*(n / 8)+k<n by omega)]
  ·rw [decide_eq_false h,decide_eq_false (show ¬ 8*(n / 8)+k<n by omega),Bool.false_and]
 ·rw [decide_eq_false hk];simp
theorem rowF_cut {f:Nat→Bool} {n:Nat} (h:n % 8≠0):(rowF f (need n)).set (need n - 1) (byt f (need n - 1) % 2 ^ (n % 8))=rowF (cut n f) (need n):=by
 have hm:need n - 1=n / 8:=by unfold need;omega
 have hn:n / 8<need n:=by unfold need;omega
 rw [hm,byt_cut]
 refine getD_ext (by simp [rowF_len]) fun j hj=>?_
 rw [List.length_set,rowF_len] at hj
 rw [rowF_getD _ _ _ hj,List.getD_eq_getElem?_getD,List.getElem?_set]
 by_cases h:n / 8=j
 ·subst h;simp [rowF_len,hj]
 ·rw [if_neg h,←List.getD_eq_getElem?_getD,rowF_getD _ _ _ hj]
  refine byt_congr fun i hi=>?_
  unfold cut
  rw [decide_eq_true (show 8*j+i<n by unfold need at hj;omega),Bool.true_and]
theorem rowF_cut0 {f:Nat→Bool} {n:Nat} (h:n % 8=0):rowF f (need n)=rowF (cut n f) (need n):=by
 refine rowF_congr fun i hi=>?_
 unfold cut
 rw [decide_eq_true (show i<n by unfold need at hi;omega),Bool.true_and]
theorem copied_row (bs:List Nat) (m:Nat) (hd:∀x∈bs,x<256):bs.take m++(List.replicate m 0).drop (bs.take m).length=rowF (trs bs) m:=by
 refine getD_ext (by rw [rowF_len];simp;omega) fun j hj=>?_
 have hl:(bs.take m++(List.replicate m 0).drop (bs.take m).length).length=m:=by simp;omega
 rw [hl] at hj
 rw [rowF_getD _ _ _ hj]
 have hg:bs.getD j 0<256:=by
  rw [List.getD_eq_getElem?_getD]
  cases e:bs[j]? with
  | none=>decide
  | some x=>exact hd x (List.mem_of_getElem? e)
 rw [byt_trs _ _ hg]
 by_cases h:j<(bs.take m).length
 ·rw [List.getD_eq_getElem?_getD,List.getElem?_append_left h,←List.getD_eq_getElem?_getD,getD_take _ _ _ hj]
 ·rw [List.getD_eq_getElem?_getD,List.getElem?_append_right (by omega),List.getElem?_drop,List.getElem?_replicate]
  have h2:bs.length≤j:=by rw [List.length_take] at h;omega
  rw [List.getD_eq_getElem?_getD,List.getElem?_eq_none h2]
  split <;> rfl
theorem zeros_of (n:Nat):(madeCells #[Value.int .u8 0] n).toList=u8s (List.replicate n 0):=by
 rw [toList_madeCells_one]
 unfold u8s
 rw [List.map_replicate];rfl
theorem u8s_take (bs:List Nat) (m:Nat):(u8s bs).take m=u8s (bs.take m):=by unfold u8s;rw [List.map_take]
theorem u8s_drop (bs:List Nat) (m:Nat):(u8s bs).drop m=u8s (bs.drop m):=by unfold u8s;rw [List.map_drop]
set_option maxRecDepth 20000 in
set_option maxHeartbeats 1600000 in
theorem fit_any (n:Nat) (p:Option Addr) (k c:Nat) (bs:List Nat) (w:World) (hn:n≤2048) (hk:k≤140737488351232) (hB:Bys w p k bs) :
  Calls Tryz.prog 214 #[.int .i64 (n:Int),.slice p k c] w fun e w'=>(∃g b,e = .returned (.pointer (some ⟨g,0,none⟩))∧w.heap.size≤g∧w.heap.size≤b∧Sat w' g b n (cut n (trs bs)))∧Below w.heap.size w w':=by
 obtain⟨m,hm⟩:∃m,Hid (need n=m):=⟨_,Lib.hid rfl⟩
 have hm2:m≤256:=by rw [←hm.out];exact need_le hn
 obtain⟨i0,hi,hz0,hz1,hz2⟩:=info_parts Tryz.info5
 obtain⟨C0,HC⟩:∃C0,Hid (madeCells (Value.int IntKind.u8 0).cells m=C0):=⟨_,Lib.hid rfl⟩
 have HCl:Hid (C0.toList=u8s (List.replicate m 0)):=Lib.hid (by rw [←HC.out];exact zeros_of m)
 have HCs:Hid (C0.size=m):=by rw [←HC.out];exact Lib.hid (size_madeCells _ _)
 have hmk:∀w:World,(Instr.makeSlice 71 (.int .i64 (m:Int)) (.int .i64 (m:Int))).run Tryz.prog w = .ok (.slice (some ⟨w.heap.size,0,none⟩) m m) (w.alloc (.cells C0 5)):=fun w=>by
  have h:=run_make (P:=Tryz.prog) w 71 5 i0 _ Tryz.underlying71 hi hz0 .i64 .i64 m m (by omega) (by omega) (by rw [hz2];omega) (by omega)
  rw [hz1,Int.toNat_natCast,Nat.mul_one,HC.out] at h
  exact h
 have HB:=Lib.hid hB
 clear hB hi hz0 hz1 hz2
 have HL:Hid ((u8s (bs.take m)).length=k.min m):=Lib.hid (by rw [u8s_len,List.length_take,HB.out.len];exact Nat.min_comm _ _)
 have hl0:(Tryz.prog.info? 5).map (·.size)=some 1:=by kernel_rfl
 have HP:=Lib.hid hl0
 clear hl0
 have K1:Hid ((w.alloc (.cells C0 5)).heap[w.heap.size]?=some (.cells C0.toList.toArray 5 (0,0))):=Lib.hid (by show (w.heap.push _)[w.heap.size]?=_;simp)
 have K5:Hid (Below w.heap.size w (w.alloc (.cells C0 5))):=Lib.hid ((Below.refl _ _).alloc (Nat.le_refl _) _)
 have K3:Hid (0<(u8s (bs.take m)).length→∃ad,p=some ad∧∀j v,(u8s (bs.take m))[j]?=some v→(w.alloc (.cells C0 5)).cell? (ad.add j)=some v):=
  Lib.hid fun h=>by
   have h0:0<k:=by
              rw [HL.out] at h;rcases Nat.eq_zero_or_pos k with e | e
              ·subst e;simp [Nat.min] at h
              ·exact e
   obtain⟨ad,e,hc⟩:=(HB.out.below K5.out).cells h0
   refine⟨ad,e,fun j v hv=>hc j v ?_⟩
   rw [←u8s_take,List.getElem?_take] at hv
   split at hv
   ·exact hv
   ·cases hv
 have K4:Hid (0+(u8s (bs.take m)).length≤C0.toList.length):=Lib.hid (by rw [HCl.out,u8s_len,u8s_len,List.length_take,List.length_replicate];omega)
 have HNEED:Hid (∀w,Calls Tryz.prog 213 #[.int .i64 (n:Int)] w fun e w'=>e = .returned (.int .i64 (m:Int))∧w=w'):=Lib.hid fun w=>by rw [←hm.out];exact need_any n w (by omega)
 clear hm2
 go_enter Tryz.func214,Tryz.ntmps214
 go_wp2_with (first
  | (go_at_call 213;refine(HNEED.out _).mono ?_;rintro e w7 ⟨rfl,rfl⟩)
  | (with_reducible refine wpList_copy_splice (w:=w.alloc (.cells C0 5)) rfl (.tmp 10) (.tmp 11) 71 71 rfl 5 Tryz.underlying71 HP.out (some ⟨w.heap.size,0,none⟩) p m m k c rfl rfl w.heap.size 0 C0.toList 5 K1.out (u8s (bs.take m)) HL.out (fun h=>⟨rfl,K3.out h⟩) K4.out (u8s_one _) w.heap.size w K5.out (Nat.le_refl _) ?_))
 intro w2 hheap hb2
 have hm2:m≤256:=by rw [←hm.out];exact need_le hn
 have HO:Hid (Row5 w2 w.heap.size m (rowF (trs bs) m)):=Lib.hid (by
  rw [←copied_row bs m HB.out.dig]
  refine⟨by rw [u8s_len,List.length_append,List.length_drop,List.length_replicate,List.length_take];omega,.inr ⟨w.heap.size,m,_,rfl,Nat.zero_le _,hheap.out,Nat.le_refl _,by unfold maxLen;omega,?_,?_⟩⟩
  ·rw [List.size_toArray,length_splice _ _ _ K4.out,Array.length_toList,HCs.out,Nat.mul_one]
  ·show List.take (m*1) (splice C0.toList 0 (u8s (bs.take m)))=_
   rw [Nat.mul_one,HCl.out]
   unfold splice
   rw [List.take_zero,List.nil_append,Nat.zero_add,u8s_len,u8s_drop,←u8s_append,List.take_of_length_le (by rw [u8s_len,List.length_append,List.length_drop,List.length_replicate,List.length_take];omega)])
 have HB2:=Lib.hid hb2
 clear hheap hb2 hm2 K1 K3 K4 K5 HC HCl HCs hmk HL
 go_upto_if 16 with fail
 go_cut [6] (fun _ wx=>Hid (Row5 wx w.heap.size m (rowF (cut n (trs bs)) m)∧Below w.heap.size w wx))
 case first=>
  by_cases h0:n % 8=0
  ·have hd:decide ((0:Int)<(n:Int) % 8)=false:=decide_eq_false (by omega)
   have HF:Hid (rowF (trs bs) m=rowF (cut n (trs bs)) m):=Lib.hid (by rw [←hm.out];exact rowF_cut0 h0)
   go_wp2_with fail
   go_meet
   exact Lib.hid ⟨by rw [←HF.out];exact HO.out,HB2.out⟩
  ·have hd:decide ((0:Int)<(n:Int) % 8)=true:=decide_eq_true (by omega)
   obtain⟨q,hq⟩:∃q,m=q+1:=⟨m - 1,by have:=hm.out;unfold need at this;omega⟩
   have HF:Hid ((rowF (trs bs) m).set q (byt (trs bs) q % 2 ^ (n % 8))=rowF (cut n (trs bs)) m):=Lib.hid (by
    have h:=rowF_cut (f:=trs bs) (n:=n) h0
    rw [hm.out,show m - 1=q by omega] at h
    exact h)
   have hcell:=HO.out.cell q (by omega)
   rw [rowF_getD _ _ _ (by omega)] at hcell
   have hfz:=HO.out.fz q
   have e:(n:Int) % 8=((n % 8:Nat):Int):=by omega
   have hr:n % 8<8:=Nat.mod_lt _ (by decide)
   rw [e] at hd ⊢
   have hp:2 ^ (n % 8)<256:=Nat.lt_of_lt_of_le (Nat.pow_lt_pow_right (by decide) hr) (by decide)
   have hp0:0<2 ^ (n % 8):=Nat.pow_pos (by decide)
   have h8:∀r:Fin 8,(2:Int) ^ r.val % 256=((2 ^ r.val:Nat):Int):=by decide
   have hsh:=h8 ⟨n % 8,hr⟩
   have hmin:min (n % 8) 8=n % 8:=Nat.min_eq_left (by omega)
   have hand:bits .and .u8 (byt (trs bs) q:Int) ((2 ^ (n % 8) - 1:Nat):Int)=((byt (trs bs) q % 2 ^ (n % 8):Nat):Int):=by
    rw [u8_and_nat _ _ (byt_lt _ _) (by omega),Nat.and_two_pow_sub_one_eq_mod]
   have hi1:(m:Int) - 1=(q:Int):=by omega
   have hqi:(q:Int)≤256:=by have:=need_le hn;have:=hm.out;omega
   have hi2:IntKind.i64.wrap ((m:Int) - 1)=(q:Int):=by rw [IntKind.wrap_i64,hi1];omega
   have hi3:IntKind.i64.wrap (q:Int)=(q:Int):=by rw [IntKind.wrap_i64];omega
   have hi4:wrap64 (q:Int)=(q:Int):=by unfold wrap64;omega
   have hqm:q<m:=by omega
   have HP2:=HO.out.put q (byt (trs bs) q % 2 ^ (n % 8))
   rw [HF.out] at HP2
   have HPP:=Lib.hid HP2
   clear HP2 h8
   simp only at hsh
   generalize byt (trs bs) q % 2 ^ (n % 8)=y2 at *
   generalize byt (trs bs) q=y at *
   generalize hz:2 ^ (n % 8)=z at *
   have hs1:((z:Int) - 1) % 256=((z - 1:Nat):Int):=by omega
   have hs2:IntKind.u8.wrap ((z:Int) - 1)=((z - 1:Nat):Int):=by rw [IntKind.wrap_u8'];omega
   have hs3:(z:Int) - 1=((z - 1:Nat):Int):=by omega
   generalize z - 1=z1 at *
   clear hp hp0 hr e hq hz
   generalize n % 8=r at *
   go_wp2_with fail
   go_region
   all_goals
    go_wp2_with fail
    go_meet
    exact Lib.hid ⟨HPP.out.below (Below.refl _ _).drew,((HB2.out.setCell (p:=⟨w.heap.size,q,none⟩) (Nat.le_refl _) _)).drew⟩
 case rest=>
  have HR:=hcut
  clear hcut
  go_wp2_with fail
  go_ret
  have hb3:Below wc.heap.size wc (wc.alloc (.cells #[.int .i64 (n:Int),.slice (some ⟨w.heap.size,0,none⟩) m m] 247)):=(Below.refl _ _).alloc (Nat.le_refl _) _
  have hsz:=HR.out.2.size
  have hlt:=HR.out.1.lt
  refine⟨⟨wc.heap.size,w.heap.size,rfl,hsz,Nat.le_refl _,hn,cut_sub _ _,by omega,?_,?_⟩,HR.out.2.alloc hsz _⟩
  ·rw [hm.out];exact heap_alloc_new wc _
  ·rw [hm.out];exact HR.out.1.below hb3
end Bi
end
section
set_option maxRecDepth 20000
open Go.RowKit
def pageT (bs:List Nat):List Nat:=bs++List.replicate (512 - bs.length) 0
theorem pageT_len {bs:List Nat} (h:bs.length≤512):(pageT bs).length=512:=by unfold pageT;rw [List.length_append,List.length_replicate];omega
theorem pageT_dig {bs:List Nat} (h:∀x∈bs,x<256):∀x∈pageT bs,x<256:=fun x hx=>by
 rcases List.mem_append.1 hx with h1 | h1
 ·exact h x h1
 ·rw [List.eq_of_mem_replicate h1];decide
set_option maxHeartbeats 1600000 in
theorem pageText_any (p:Option Addr) (n c:Nat) (bs:List Nat) (w:World) (hn:n≤512) (hB:Bys w p n bs) :
  Calls Tryz.prog 120 #[.slice p n c] w fun e w'=>e = .returned (.string (strB (pageT bs)))∧Below w.heap.size w w':=by
 obtain⟨i0,hi,hz0,hz1,hz2⟩:=info_parts Tryz.info5
 obtain⟨C0,HC⟩:∃C0,Hid (madeCells (Value.int IntKind.u8 0).cells 512=C0):=⟨_,Lib.hid rfl⟩
 have HCl:Hid (C0.toList=u8s (List.replicate 512 0)):=Lib.hid (by rw [←HC.out];exact Bi.zeros_of 512)
 have HCs:Hid (C0.size=512):=by rw [←HC.out];exact Lib.hid (size_madeCells _ _)
 have hmk:∀w:World,(Instr.makeSlice 71 (.int .i64 512) (.int .i64 512)).run Tryz.prog w = .ok (.slice (some ⟨w.heap.size,0,none⟩) 512 512) (w.alloc (.cells C0 5)):=fun w=>by
  have h:=run_make (P:=Tryz.prog) w 71 5 i0 _ Tryz.underlying71 hi hz0 .i64 .i64 ((512:Nat):Int) ((512:Nat):Int) (by omega) (by omega) (by rw [hz2];omega) (by omega)
  rw [hz1,Int.toNat_natCast,Nat.mul_one,HC.out] at h
  exact h
 have HB:=Lib.hid hB
 have hbl:=hB.len
 clear hB hi hz0 hz1 hz2
 have HL:Hid ((u8s bs).length=n.min 512):=Lib.hid (by rw [u8s_len,HB.out.len];exact(Nat.min_eq_left hn).symm)
 have HL2:Hid ((u8s bs).length=n):=Lib.hid (by rw [u8s_len,HB.out.len])
 have hl0:(Tryz.prog.info? 5).map (·.size)=some 1:=by kernel_rfl
 have HP:=Lib.hid hl0
 clear hl0
 have K1:Hid ((w.alloc (.cells C0 5)).heap[w.heap.size]?=some (.cells C0.toList.toArray 5 (0,0))):=Lib.hid (by show (w.heap.push _)[w.heap.size]?=_;simp)
 have K5:Hid (Below w.heap.size w (w.alloc (.cells C0 5))):=Lib.hid ((Below.refl _ _).alloc (Nat.le_refl _) _)
 have K3:Hid (0<(u8s bs).length→∃ad,p=some ad∧∀j v,(u8s bs)[j]?=some v→(w.alloc (.cells C0 5)).cell? (ad.add j)=some v):=
  Lib.hid fun h=>(HB.out.below K5.out).cells (by rw [HL2.out] at h;exact h)
 have K4:Hid (0+(u8s bs).length≤C0.toList.length):=Lib.hid (by rw [HL2.out,Array.length_toList,HCs.out];omega)
 have HBL:=Lib.hid hbl
 have HN:=Lib.hid hn
 clear hbl hn
 go_enter Tryz.func120,Tryz.ntmps120
 go_upto_region 3 with (with_reducible refine wpList_copy_splice (w:=w.alloc (.cells C0 5)) rfl (.tmp 5) (.tmp 6) 71 71 rfl 5 Tryz.underlying71 HP.out (some ⟨w.heap.size,0,none⟩) p 512 512 n c rfl rfl w.heap.size 0 C0.toList 5 K1.out (u8s bs) HL.out (fun h=>⟨rfl,K3.out h⟩) K4.out (u8s_one _) w.heap.size w K5.out (Nat.le_refl _) ?_;intro w2 hheap hb2)
 have HB2:=Lib.hid hb2
 have hcv:(convert 71 9 (.slice (some ⟨w.heap.size,0,none⟩) 512 512)).run Tryz.prog w2 = .ok (.string (strB (pageT bs))) w2:=by
  have hl:=HBL.out
  have hn:=HN.out
  have hsp:splice C0.toList 0 (u8s bs)=u8s (pageT bs):=by
   unfold splice pageT
   rw [List.take_zero,List.nil_append,HCl.out,u8s_len,hl,Nat.zero_add,Bi.u8s_drop,List.drop_replicate,←u8s_append]
  refine(Bys.own (base:=w.heap.size) (n:=512) (c:=512) (bs:=pageT bs) ⟨by rw [u8s_len,pageT_len (by omega)],.inr ⟨w.heap.size,512,_,rfl,Nat.le_refl _,hheap.out,Nat.le_refl _,by decide,?_,?_⟩⟩ (pageT_dig HB.out.dig)).conv 512
  ·rw [List.size_toArray,length_splice _ _ _ K4.out,Array.length_toList,HCs.out]
  ·show List.take (512*1) (splice C0.toList 0 (u8s bs))=_
   rw [hsp,List.take_of_length_le (by rw [u8s_len,pageT_len (by omega)];exact Nat.le_refl _)]
 clear hheap hb2 K1 K3 K4 K5 HC HCl HCs hmk HL
 go_wp2_with fail
 go_ret
 exact⟨rfl,HB2.out⟩
end
end Go.Proofs.YtmbecjlioogbhaaGreatDoor
