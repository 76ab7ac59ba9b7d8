/- Texts QNeed to XCmt of this seat, laid into one. -/
import Derived.Deep.RegionHeldLaw
import Derived.Test.YtmbecjlioogbhaaGreatDoorM17
import Derived.Test.YtmbecjlioogbhaaGreatDoorM20
set_option linter.unusedVariables false
set_option linter.unusedSimpArgs false
set_option linter.constructorNameAsVariable false
namespace Go.Proofs.YtmbecjlioogbhaaGreatDoor
section
set_option maxRecDepth 20000
open Go.RowKit
def nn (f:Nat→List Nat) (l:Nat):Bool:=!(f l).isEmpty
theorem nn_iff {f:Nat→List Nat} {l:Nat}:nn f l=true↔f l≠[]:=by unfold nn;simp
theorem cnt_congr2 {f g:Nat→Bool} {n:Nat} (h:∀l,l<n→f l=g l):Bi.cnt f n=Bi.cnt g n:=by
 induction n with
 | zero=>rfl
 | succ n ih=>show Bi.cnt f n+(f n).toNat=Bi.cnt g n+(g n).toNat;rw [ih (fun l hl=>h l (by omega)),h n (by omega)]
theorem cnt_add2 (f:Nat→Bool) (a b:Nat):Bi.cnt f (a+b)=Bi.cnt f a+Bi.cnt (fun j=>f (a+j)) b:=by
 induction b with
 | zero=>rfl
 | succ b ih=>show Bi.cnt f (a+b)+(f (a+b)).toNat=_+(_+(f (a+b)).toNat);rw [ih];omega
theorem cnt_or {f g:Nat→Bool} {n:Nat} (h:∀l,l<n→f l=true→g l=false):Bi.cnt (fun l=>f l || g l) n=Bi.cnt f n+Bi.cnt g n:=by
 induction n with
 | zero=>rfl
 | succ n ih=>
  show Bi.cnt (fun l=>f l || g l) n+(f n || g n).toNat=(Bi.cnt f n+(f n).toNat)+(Bi.cnt g n+(g n).toNat)
  rw [ih (fun l hl=>h l (by omega))]
  have:=h n (by omega)
  cases e1:f n <;> cases e2:g n <;> simp_all <;> omega
theorem keys_cnt (f:Pgs):f.keys.length=Bi.cnt (fun l=>(f l).isSome) 512:=Bi.mems_cnt (fun l=>(f l).isSome) 512
def wrX (x:Xv) (l:Nat):Bool:=nn x.now l && x.dirty l
def chX (x:Xv) (l:Nat):Bool:=wrX x l || (nn x.now l != nn x.com l)
def chgX (x:Xv) (i:Nat):Nat→Bool
 | 0=>false
 | k+1=>chgX x i k || chX x (128*i+k)
def bareX (f:Nat→List Nat) (i:Nat):Nat→Bool
 | 0=>true
 | k+1=>bareX f i k && !nn f (128*i+k)
def needX (x:Xv):Nat→Nat
 | 0=>1
 | i+1=>needX x i+Bi.cnt (fun j=>wrX x (128*i+j)) 128+(chgX x i 128 && !bareX x.now i 128).toNat
theorem chgX_iff {x:Xv} {i:Nat}:∀k,chgX x i k=true↔∃j,j<k∧chX x (128*i+j)=true
 | 0=>by simp [chgX]
 | k+1=>by
  show (chgX x i k || chX x (128*i+k))=true↔_
  rw [Bool.or_eq_true,chgX_iff k]
  constructor
  ·rintro (⟨j,hj,h⟩ | h)
   ·exact⟨j,by omega,h⟩
   ·exact⟨k,by omega,h⟩
  ·rintro ⟨j,hj,h⟩
   by_cases e:j=k
   ·subst e;exact .inr h
   ·exact .inl ⟨j,by omega,h⟩
theorem bareX_iff {f:Nat→List Nat} {i:Nat}:∀k,bareX f i k=true↔∀j,j<k→nn f (128*i+j)=false
 | 0=>by simp [bareX]
 | k+1=>by
  show (bareX f i k && !nn f (128*i+k))=true↔_
  rw [Bool.and_eq_true,bareX_iff k]
  constructor
  ·rintro ⟨h1,h2⟩ j hj
   by_cases e:j=k
   ·subst e;simpa using h2
   ·exact h1 j (by omega)
  ·intro h
   exact⟨fun j hj=>h j (by omega),by rw [h k (by omega)];rfl⟩
section
variable {s:Sp} {L:List (List Nat)} {pg:Nat} {x:Xv}
theorem Sim.nnow (h:Sim s L x) (hG:SpGood s L pg) (hs:Secs128 L) {l:Nat} (hl:l<512):nn x.now l=isN s l:=by
 have h1:=now_nil hG hs l
 rw [←h.now l hl] at h1
 cases e:isN s l
 ·cases e2:nn x.now l
  ·rfl
  ·exact absurd (h1.2 e) (nn_iff.1 e2)
 ·cases e2:nn x.now l
  ·exfalso
   have:x.now l=[]:=by unfold nn at e2;simpa using e2
   rw [h1.1 this] at e;cases e
  ·rfl
theorem Sim.ncom (h:Sim s L x) (hG:SpGood s L pg) (hs:Secs128 L) {l:Nat} (hl:l<512):nn x.com l = !(s.g.tb l == 0):=by
 have h1:=com_nil hG hs l
 rw [←h.com l hl] at h1
 cases e2:nn x.com l
 ·have:x.com l=[]:=by unfold nn at e2;simpa using e2
  rw [h1.1 this];rfl
 ·have:=nn_iff.1 e2
  have h2:s.g.tb l≠0:=fun e=>this (h1.2 e)
  simp [h2]
theorem Sim.wr (h:Sim s L x) (hG:SpGood s L pg) (hs:Secs128 L) {l:Nat} (hl:l<512):wrX x l=(s.fr l).isSome:=by
 unfold wrX
 rw [h.nnow hG hs hl,h.dirty l hl]
 unfold isN
 cases (s.fr l).isSome <;> simp
theorem Sim.bare (h:Sim s L x) (hG:SpGood s L pg) (hs:Secs128 L) {i:Nat} (hi:i<4):bareX x.now i 128=true↔∀k,k<128→s.fr (128*i+k)=none∧s.kp (128*i+k)=0:=by
 rw [bareX_iff]
 constructor
 ·intro h1 k hk
  have h2:=h1 k hk
  rw [h.nnow hG hs (by omega)] at h2
  unfold isN at h2
  cases e:s.fr (128*i+k) with
  | some b=>rw [e] at h2;simp at h2
  | none=>
   rw [e] at h2
   simp at h2
   exact⟨rfl,h2⟩
 ·intro h1 k hk
  rw [h.nnow hG hs (by omega)]
  unfold isN
  rw [(h1 k hk).1,(h1 k hk).2];rfl
theorem Sim.mov (h:Sim s L x) (hG:SpGood s L pg) (hs:Secs128 L) {i:Nat} (hi:i<4):(chgX x i 128 && !bareX x.now i 128)=movB s i:=by
 have hB:=hG.base
 have hch:∀k,k<128→chX x (128*i+k)=((s.fr (128*i+k)).isSome || (isN s (128*i+k) != !(s.g.tb (128*i+k) == 0))):=fun k hk=>by
  unfold chX
  rw [h.wr hG hs (by omega),h.nnow hG hs (by omega),h.ncom hG hs (by omega)]
 rw [Bool.eq_iff_iff,Bool.and_eq_true,Bool.not_eq_true',chgX_iff]
 unfold movB
 rw [Bool.or_eq_true,Bool.and_eq_true,Bool.not_eq_true',freshB_iff]
 constructor
 ·rintro ⟨⟨k,hk,h1⟩,h2⟩
  rw [hch k hk] at h1
  by_cases hf:∃l,l∈s.fr.keys∧l / 128=i
  ·exact .inl hf
  ·right
   have hno:∀j,j<128→s.fr (128*i+j)=none:=fun j hj=>by
    cases e:s.fr (128*i+j) with
    | none=>rfl
    | some b=>exact absurd ⟨128*i+j,Pgs.mem_keys.2 ⟨by omega,by rw [e];rfl⟩,by omega⟩ hf
   rw [hno k hk] at h1
   unfold isN at h1
   rw [hno k hk] at h1
   constructor
   ·cases e:Tb.difB s.kp s.g.tb i
    ·have:=dif_iff.1 e k hk
     rw [this] at h1
     simp at h1
    ·rfl
   ·cases e:Tb.bareB s.kp i
    ·rfl
    ·have:bareX x.now i 128=true:=(h.bare hG hs hi).2 fun j hj=>⟨hno j hj,bare_iff.1 e j hj⟩
     rw [this] at h2;cases h2
 ·rintro (⟨l,hl,he⟩ | ⟨h1,h2⟩)
  ·have hl5:=(Pgs.mem_keys.1 hl).1
   have hle:128*i+l % 128=l:=by omega
   refine⟨⟨l % 128,Nat.mod_lt _ (by omega),?_⟩,?_⟩
   ·rw [hch _ (Nat.mod_lt _ (by omega)),hle,(Pgs.mem_keys.1 hl).2];rfl
   ·cases e:bareX x.now i 128
    ·rfl
    ·have:=((h.bare hG hs hi).1 e (l % 128) (Nat.mod_lt _ (by omega))).1
     rw [hle] at this
     have h3:=(Pgs.mem_keys.1 hl).2
     rw [this] at h3;cases h3
  ·have hd:∃k,k<128∧s.kp (128*i+k)≠s.g.tb (128*i+k):=by
    apply Classical.byContradiction
    intro hc
    have:Tb.difB s.kp s.g.tb i=false:=dif_iff.2 fun j hj=>Classical.byContradiction fun hne=>hc ⟨j,hj,hne⟩
    rw [this] at h1;cases h1
   obtain⟨k,hk,hne⟩:=hd
   refine⟨⟨k,hk,?_⟩,?_⟩
   ·rw [hch k hk]
    have hz:=(hG.kp (128*i+k)).resolve_right hne
    unfold isN
    rw [hz] at hne ⊢
    cases e:(s.fr (128*i+k)).isSome
    ·have:s.g.tb (128*i+k)≠0:=fun e=>hne e.symm
     simp [this]
    ·rfl
   ·cases e:bareX x.now i 128
    ·rfl
    ·have:Tb.bareB s.kp i=true:=bare_iff.2 fun j hj=>((h.bare hG hs hi).1 e j hj).2
     rw [this] at h2;cases h2
theorem needX_eq (h:Sim s L x) (hG:SpGood s L pg) (hs:Secs128 L):∀i,i≤4→needX x i=1+Bi.cnt (fun l=>(s.fr l).isSome) (128*i)+Bi.cnt (movB s) i
 | 0,_=>rfl
 | i+1,hi=>by
  show needX x i+Bi.cnt (fun j=>wrX x (128*i+j)) 128+(chgX x i 128 && !bareX x.now i 128).toNat=_
  rw [needX_eq h hG hs i (by omega),h.mov hG hs (by omega),cnt_congr2 (g:=fun j=>(s.fr (128*i+j)).isSome) (fun j hj=>h.wr hG hs (by omega)),show 128*(i+1)=128*i+128 by omega,cnt_add2]
  show _=_+(Bi.cnt (movB s) i+(movB s i).toNat)
  omega
theorem need_eq (h:Sim s L x) (hG:SpGood s L pg) (hs:Secs128 L):needX x 4=needS s:=by
 rw [needX_eq h hG hs 4 (Nat.le_refl _)]
 unfold needS movL
 rw [keys_cnt,Tb.mems_cnt,show 128*4=512 from rfl]
 omega
theorem len_eq (h:Sim s L x) (hG:SpGood s L pg) (hs:Secs128 L):lenS s=Bi.cnt (nn x.now) 512:=by
 rw [cnt_congr2 (g:=fun l=>Tb.told s.kp l || (s.fr l).isSome) (fun l hl=>by
  rw [h.nnow hG hs hl]
  unfold isN Tb.told
  rw [Bool.or_comm])]
 rw [cnt_or (fun l _ h1=>?_)]
 ·unfold lenS;rw [keys_cnt]
 ·cases e:s.fr l with
  | none=>rfl
  | some b=>
   have:=(hG.ex l b e).1
   unfold Tb.told at h1
   rw [this] at h1;cases h1
theorem gapF_congr {f g:Nat→Bool}:∀(k i:Nat),(∀l,i≤l→l<i+k→f l=g l)→gapF f k i=gapF g k i
 | 0,_,_=>rfl
 | k+1,i,h=>by
  unfold gapF
  rw [h i (by omega) (by omega),gapF_congr k (i+1) (fun l h1 h2=>h l (by omega) (by omega))]
theorem gap_eq (h:Sim s L x) (hG:SpGood s L pg) (hs:Secs128 L):gapS s=gapF (nn x.now) 512 0:=by
 unfold gapS
 exact gapF_congr 512 0 fun l _ hl=>by rw [hasS_isN s (by omega),h.nnow hG hs (by omega)]
end
end
section
set_option maxRecDepth 20000
open Go.RowKit
def fmtS (m:Dsk):Sp:=⟨⟨⟨(ldA m).ep,(pgOf m:Int),0,0⟩,fun _=>0,fun _=>0,usedM m (ldA m)⟩,usedM m (ldB m),fun _=>0,fun _=>none,false⟩
theorem fm_read {w:World} {g b i:Nat} (h:b≠g) (v1 v2 v3 v4 v5 v6 v7 v8 v9 v10:Value):((((((((((w.setCell ⟨g,1,none⟩ v1).setCell ⟨g,2,none⟩ v2).setCell ⟨g,3,none⟩ v3).setCell ⟨g,4,none⟩ v4).setCell ⟨g,5,none⟩ v5).setCell ⟨g,6,none⟩ v6).setCell ⟨g,7,none⟩ v7).setCell ⟨g,8,none⟩ v8).setCell ⟨g,9,none⟩ v9).setCell ⟨g,10,none⟩ v10).cell? ⟨b,i,none⟩=w.cell? ⟨b,i,none⟩:=by
 have h2:g≠b:=Ne.symm h
 rw [World.cell?_setCell_far _ _ _ _ h2,World.cell?_setCell_far _ _ _ _ h2,World.cell?_setCell_far _ _ _ _ h2,World.cell?_setCell_far _ _ _ _ h2,World.cell?_setCell_far _ _ _ _ h2,World.cell?_setCell_far _ _ _ _ h2,World.cell?_setCell_far _ _ _ _ h2,World.cell?_setCell_far _ _ _ _ h2,World.cell?_setCell_far _ _ _ _ h2,World.cell?_setCell_far _ _ _ _ h2]
theorem fm_only (w:World) (g:Nat) (v1 v2 v3 v4 v5 v6 v7 v8 v9 v10:Value):Only g w ((((((((((w.setCell ⟨g,1,none⟩ v1).setCell ⟨g,2,none⟩ v2).setCell ⟨g,3,none⟩ v3).setCell ⟨g,4,none⟩ v4).setCell ⟨g,5,none⟩ v5).setCell ⟨g,6,none⟩ v6).setCell ⟨g,7,none⟩ v7).setCell ⟨g,8,none⟩ v8).setCell ⟨g,9,none⟩ v9).setCell ⟨g,10,none⟩ v10):=
 (((((((((Only.setCell g 1 v1 _).trans (Only.setCell g 2 v2 _)).trans (Only.setCell g 3 v3 _)).trans (Only.setCell g 4 v4 _)).trans (Only.setCell g 5 v5 _)).trans (Only.setCell g 6 v6 _)).trans (Only.setCell g 7 v7 _)).trans (Only.setCell g 8 v8 _)).trans (Only.setCell g 9 v9 _)).trans (Only.setCell g 10 v10 _)
theorem fm_chain {w:World} {g:Nat} {a0 a1 a2 a3 a4 a5 a6 a7 a8 a9 a10 a11 a12 a13 a14:Value} (h:w.heap[g]?=some (.cells #[a0,a1,a2,a3,a4,a5,a6,a7,a8,a9,a10,a11,a12,a13,a14] 101 (0,0))) (v1 v2 v3 v4 v5 v6 v7 v8 v9 v10:Value) :
  ((((((((((w.setCell ⟨g,1,none⟩ v1).setCell ⟨g,2,none⟩ v2).setCell ⟨g,3,none⟩ v3).setCell ⟨g,4,none⟩ v4).setCell ⟨g,5,none⟩ v5).setCell ⟨g,6,none⟩ v6).setCell ⟨g,7,none⟩ v7).setCell ⟨g,8,none⟩ v8).setCell ⟨g,9,none⟩ v9).setCell ⟨g,10,none⟩ v10).heap[g]?=some (.cells #[a0,v1,v2,v3,v4,v5,v6,v7,v8,v9,v10,a11,a12,a13,a14] 101 (0,0)):=by
 have h1:(w.setCell ⟨g,1,none⟩ v1).heap[g]?=some (.cells #[a0,v1,a2,a3,a4,a5,a6,a7,a8,a9,a10,a11,a12,a13,a14] 101 (0,0)):=heap_setCell_same _ g 1 _ 101 v1 h
 have h2:((w.setCell ⟨g,1,none⟩ v1).setCell ⟨g,2,none⟩ v2).heap[g]?=some (.cells #[a0,v1,v2,a3,a4,a5,a6,a7,a8,a9,a10,a11,a12,a13,a14] 101 (0,0)):=heap_setCell_same _ g 2 _ 101 v2 h1
 have h3:(((w.setCell ⟨g,1,none⟩ v1).setCell ⟨g,2,none⟩ v2).setCell ⟨g,3,none⟩ v3).heap[g]?=some (.cells #[a0,v1,v2,v3,a4,a5,a6,a7,a8,a9,a10,a11,a12,a13,a14] 101 (0,0)):=heap_setCell_same _ g 3 _ 101 v3 h2
 have h4:((((w.setCell ⟨g,1,none⟩ v1).setCell ⟨g,2,none⟩ v2).setCell ⟨g,3,none⟩ v3).setCell ⟨g,4,none⟩ v4).heap[g]?=some (.cells #[a0,v1,v2,v3,v4,a5,a6,a7,a8,a9,a10,a11,a12,a13,a14] 101 (0,0)):=heap_setCell_same _ g 4 _ 101 v4 h3
 have h5:(((((w.setCell ⟨g,1,none⟩ v1).setCell ⟨g,2,none⟩ v2).setCell ⟨g,3,none⟩ v3).setCell ⟨g,4,none⟩ v4).setCell ⟨g,5,none⟩ v5).heap[g]?=some (.cells #[a0,v1,v2,v3,v4,v5,a6,a7,a8,a9,a10,a11,a12,a13,a14] 101 (0,0)):=heap_setCell_same _ g 5 _ 101 v5 h4
 have h6:((((((w.setCell ⟨g,1,none⟩ v1).setCell ⟨g,2,none⟩ v2).setCell ⟨g,3,none⟩ v3).setCell ⟨g,4,none⟩ v4).setCell ⟨g,5,none⟩ v5).setCell ⟨g,6,none⟩ v6).heap[g]?=some (.cells #[a0,v1,v2,v3,v4,v5,v6,a7,a8,a9,a10,a11,a12,a13,a14] 101 (0,0)):=heap_setCell_same _ g 6 _ 101 v6 h5
 have h7:(((((((w.setCell ⟨g,1,none⟩ v1).setCell ⟨g,2,none⟩ v2).setCell ⟨g,3,none⟩ v3).setCell ⟨g,4,none⟩ v4).setCell ⟨g,5,none⟩ v5).setCell ⟨g,6,none⟩ v6).setCell ⟨g,7,none⟩ v7).heap[g]?=some (.cells #[a0,v1,v2,v3,v4,v5,v6,v7,a8,a9,a10,a11,a12,a13,a14] 101 (0,0)):=heap_setCell_same _ g 7 _ 101 v7 h6
 have h8:((((((((w.setCell ⟨g,1,none⟩ v1).setCell ⟨g,2,none⟩ v2).setCell ⟨g,3,none⟩ v3).setCell ⟨g,4,none⟩ v4).setCell ⟨g,5,none⟩ v5).setCell ⟨g,6,none⟩ v6).setCell ⟨g,7,none⟩ v7).setCell ⟨g,8,none⟩ v8).heap[g]?=some (.cells #[a0,v1,v2,v3,v4,v5,v6,v7,v8,a9,a10,a11,a12,a13,a14] 101 (0,0)):=heap_setCell_same _ g 8 _ 101 v8 h7
 have h9:(((((((((w.setCell ⟨g,1,none⟩ v1).setCell ⟨g,2,none⟩ v2).setCell ⟨g,3,none⟩ v3).setCell ⟨g,4,none⟩ v4).setCell ⟨g,5,none⟩ v5).setCell ⟨g,6,none⟩ v6).setCell ⟨g,7,none⟩ v7).setCell ⟨g,8,none⟩ v8).setCell ⟨g,9,none⟩ v9).heap[g]?=some (.cells #[a0,v1,v2,v3,v4,v5,v6,v7,v8,v9,a10,a11,a12,a13,a14] 101 (0,0)):=heap_setCell_same _ g 9 _ 101 v9 h8
 have h10:((((((((((w.setCell ⟨g,1,none⟩ v1).setCell ⟨g,2,none⟩ v2).setCell ⟨g,3,none⟩ v3).setCell ⟨g,4,none⟩ v4).setCell ⟨g,5,none⟩ v5).setCell ⟨g,6,none⟩ v6).setCell ⟨g,7,none⟩ v7).setCell ⟨g,8,none⟩ v8).setCell ⟨g,9,none⟩ v9).setCell ⟨g,10,none⟩ v10).heap[g]?=some (.cells #[a0,v1,v2,v3,v4,v5,v6,v7,v8,v9,v10,a11,a12,a13,a14] 101 (0,0)):=heap_setCell_same _ g 10 _ 101 v10 h9
 exact h10
structure FmQ (w0 W w:World) (d g pt:Nat) (pu po:Option Addr) (s:Sp):Prop where
 box:w.heap[g]?=some (.cells (spA d s.g.r s.g.lv (some ⟨pt,0,none⟩) pu po none none false) 101 (0,0))
 tab:Tb.Tab w pt s.g.tb
 us:Stp w pu s.g.us
 od:Stp w po s.od
 bl:Below w0.heap.size w0 w
theorem fm_both {w0 W u:World} {d g:Nat} {pu po:Option Addr} {m:Dsk} (h0:Below w0.heap.size w0 W) (hB:Below W.heap.size W u) (hg0:w0.heap.size≤g)
  (hg:W.heap[g]?=some (.cells #[.pointer (some ⟨d,0,none⟩),.int .i64 0,.int .i64 0,.int .i64 0,.int .i64 0,.int .i64 0,.int .i64 0,.int .i64 0,.int .i64 0,.pointer none,.pointer none,.pointer po,.pointer none,.map none,.bool false] 101 (0,0)))
  (hT:Tb.Tab u W.heap.size (fun _=>0)) (hpu:Stp u pu (usedM m (ldA m))) (hpo:Stp W po (usedM m (ldB m))) :
  Hid (FmQ w0 W ((((((((((u.setCell ⟨g,1,none⟩ (.int .i64 (ldA m).ep)).setCell ⟨g,2,none⟩ (.int .i64 (pgOf m:Int))).setCell ⟨g,3,none⟩ (.int .i64 0)).setCell ⟨g,4,none⟩ (.int .i64 0)).setCell ⟨g,5,none⟩ (.int .i64 0)).setCell ⟨g,6,none⟩ (.int .i64 0)).setCell ⟨g,7,none⟩ (.int .i64 0)).setCell ⟨g,8,none⟩ (.int .i64 0)).setCell ⟨g,9,none⟩ (.pointer (some ⟨W.heap.size,0,none⟩))).setCell ⟨g,10,none⟩ (.pointer pu)) d g W.heap.size pu po (fmtS m)):=Lib.hid (by
 have hl:=lt_of_block hg
 have hgu:=(hB.block g hl).trans hg
 have hO:=fm_only u g (.int .i64 (ldA m).ep) (.int .i64 (pgOf m:Int)) (.int .i64 0) (.int .i64 0) (.int .i64 0) (.int .i64 0) (.int .i64 0) (.int .i64 0) (.pointer (some ⟨W.heap.size,0,none⟩)) (.pointer pu)
 refine⟨fm_chain hgu _ _ _ _ _ _ _ _ _ _,hT.only hO (by omega),?_,?_,hO.below (Below.more h0 hB h0.size) (Nat.le_trans h0.size hB.size) hg0⟩
 ·refine hpu.chg2 (Chg.of_only (G:=[g]) hO (by simp)) (fun k hk=>?_)
  obtain rfl:=List.mem_singleton.1 hk
  exact .inr ⟨_,_,_,hgu,by simp⟩
 ·refine(hpo.below hB).chg2 (Chg.of_only (G:=[g]) hO (by simp)) (fun k hk=>?_)
  obtain rfl:=List.mem_singleton.1 hk
  exact .inr ⟨_,_,_,hgu,by simp⟩)
section
variable {w:World} {d:Nat} {F:List Nat} {m:Dsk}
set_option maxHeartbeats 6400000 in
theorem format_go (hD:Dk w d F m) (hup:m.down=false) (hl:m.out.length≤2048) (hE:ldE m=0∨ldE m=5∨ldE m=13) (Q:Nat→Int→World→Prop)
  (hC:∀u g pt pk mb pu po,Spc0 u g d pt pk mb pu po (fmtS m)→Below w.heap.size w u→w.heap.size≤g→w.heap.size≤pt→w.heap.size≤pk→w.heap.size≤mb→Calls Tryz.prog 43 #[.pointer (some ⟨g,0,none⟩),.int .i64 0] u fun e w'=>∃E,e = .returned (.int .i64 E)∧Q g E w') :
  Calls Tryz.prog 34 #[.pointer (some ⟨d,0,none⟩)] w fun e w'=>∃g E,e = .returned (.tuple #[.pointer (if E=0 then some ⟨g,0,none⟩ else none),.int .i64 E])∧Q g E w':=by
 have HCM:=Lib.hid hC
 clear hC
 have HN:=Lib.hid (load_any hD)
 have HD:=Lib.hid hD
 have HA:Hid (∀u:World,((u.alloc (.cells #[.int .i64 0,.int .i64 0,.int .i64 0,.int .i64 0] 93)).alloc (.cells #[.int .i64 0,.int .i64 0,.int .i64 0,.int .i64 0] 93)).heap[u.heap.size]?=some (.cells #[.int .i64 0,.int .i64 0,.int .i64 0,.int .i64 0] 93 (0,0)) ∧
   ((u.alloc (.cells #[.int .i64 0,.int .i64 0,.int .i64 0,.int .i64 0] 93)).alloc (.cells #[.int .i64 0,.int .i64 0,.int .i64 0,.int .i64 0] 93)).heap[u.heap.size+1]?=some (.cells #[.int .i64 0,.int .i64 0,.int .i64 0,.int .i64 0] 93 (0,0))):=Lib.hid fun u=>⟨heap_alloc2_old u _ _,heap_alloc2_new u _ _⟩
 clear hD
 unfold Rt.val at HN
 generalize hEE:ldE m=E at *
 go_enter Tryz.func34,Tryz.ntmps34
 have hq:((E != 0) && (E != 5) && (E != 13))=false:=by rcases hE with rfl | rfl | rfl <;> rfl
 go_upto_region 2 with (go_at_call 72;refine HN.out.mono ?_;rintro e w7 ⟨rfl,hb7⟩)
 have hb8:Below w7.heap.size w7 ((w7.alloc (.cells #[.int .i64 (ldA m).ep,.int .i64 (ldA m).pg,.int .i64 (ldA m).dr,.int .i64 (ldA m).wd] 93)).alloc (.cells #[.int .i64 (ldB m).ep,.int .i64 (ldB m).pg,.int .i64 (ldB m).dr,.int .i64 (ldB m).wd] 93)):=((Below.refl _ _).alloc (Nat.le_refl _) _).alloc (by simp) _
 have HB4:=Lib.hid (Below.more hb7 hb8 hb7.size)
 have HRA:Hid (RtAt ((w7.alloc (.cells #[.int .i64 (ldA m).ep,.int .i64 (ldA m).pg,.int .i64 (ldA m).dr,.int .i64 (ldA m).wd] 93)).alloc (.cells #[.int .i64 (ldB m).ep,.int .i64 (ldB m).pg,.int .i64 (ldB m).dr,.int .i64 (ldB m).wd] 93)) w7.heap.size 93 (ldA m)):=Lib.hid (heap_alloc2_old w7 _ _)
 have HRB:Hid (RtAt ((w7.alloc (.cells #[.int .i64 (ldA m).ep,.int .i64 (ldA m).pg,.int .i64 (ldA m).dr,.int .i64 (ldA m).wd] 93)).alloc (.cells #[.int .i64 (ldB m).ep,.int .i64 (ldB m).pg,.int .i64 (ldB m).dr,.int .i64 (ldB m).wd] 93)) (w7.heap.size+1) 93 (ldB m)):=Lib.hid (heap_alloc2_new w7 _ _)
 have HB47:Hid (w.heap.size≤w7.heap.size):=Lib.hid hb7.size
 clear hb7 hb8
 generalize ((w7.alloc (.cells #[.int .i64 (ldA m).ep,.int .i64 (ldA m).pg,.int .i64 (ldA m).dr,.int .i64 (ldA m).wd] 93)).alloc (.cells #[.int .i64 (ldB m).ep,.int .i64 (ldB m).pg,.int .i64 (ldB m).dr,.int .i64 (ldB m).wd] 93))=W4 at *
 generalize w7.heap.size+1=b5 at *
 generalize w7.heap.size=b4 at *
 have HU:=Lib.hid (usedBy_any (ldB m) (HD.out.below HB4.out) hup hl)
 unfold Rt.val at HU
 have q0:=HRB.out.c0
 have q1:=HRB.out.c1
 have q2:=HRB.out.c2
 have q3:=HRB.out.c3
 go_cut [24] (fun v wx=>v = .bool false∧wx=W4)
 case first=>
  rcases hE with rfl | rfl | rfl
  all_goals go_wp2_with fail
  all_goals go_meet
  all_goals exact⟨rfl,rfl⟩
 case rest=>
  obtain⟨rfl,hwc⟩:=hcut
  obtain rfl:=hwc.symm
  go_upto_region 5 with (go_at_call 73;refine HU.out.mono ?_;rintro e w8 ⟨⟨po,rfl,hpo⟩,hb8⟩)
  have HG:Hid ((w8.alloc (.cells #[.pointer (some ⟨d,0,none⟩),.int .i64 0,.int .i64 0,.int .i64 0,.int .i64 0,.int .i64 0,.int .i64 0,.int .i64 0,.int .i64 0,.pointer none,.pointer none,.pointer po,.pointer none,.map none,.bool false] 101)).heap[w8.heap.size]?=some (.cells #[.pointer (some ⟨d,0,none⟩),.int .i64 0,.int .i64 0,.int .i64 0,.int .i64 0,.int .i64 0,.int .i64 0,.int .i64 0,.int .i64 0,.pointer none,.pointer none,.pointer po,.pointer none,.map none,.bool false] 101 (0,0))):=Lib.hid (heap_alloc_new w8 _)
  have HB5:Hid (Below W4.heap.size W4 (w8.alloc (.cells #[.pointer (some ⟨d,0,none⟩),.int .i64 0,.int .i64 0,.int .i64 0,.int .i64 0,.int .i64 0,.int .i64 0,.int .i64 0,.int .i64 0,.pointer none,.pointer none,.pointer po,.pointer none,.map none,.bool false] 101))):=Lib.hid (hb8.alloc hb8.size _)
  have HP5:Hid (Stp (w8.alloc (.cells #[.pointer (some ⟨d,0,none⟩),.int .i64 0,.int .i64 0,.int .i64 0,.int .i64 0,.int .i64 0,.int .i64 0,.int .i64 0,.int .i64 0,.pointer none,.pointer none,.pointer po,.pointer none,.map none,.bool false] 101)) po (usedM m (ldB m))):=Lib.hid (hpo.below (alloc_below w8 _))
  have HG4:Hid (W4.heap.size≤w8.heap.size):=Lib.hid hb8.size
  clear hpo hb8 q0 q1 q2 q3 HRB HU
  generalize (w8.alloc (.cells #[.pointer (some ⟨d,0,none⟩),.int .i64 0,.int .i64 0,.int .i64 0,.int .i64 0,.int .i64 0,.int .i64 0,.int .i64 0,.int .i64 0,.pointer none,.pointer none,.pointer po,.pointer none,.map none,.bool false] 101))=W at *
  generalize w8.heap.size=g at *
  have HBW:Hid (Below w.heap.size w W):=Lib.hid (Below.more HB4.out HB5.out HB4.out.size)
  have HRD:Hid (∀u,Below W.heap.size W u→u.cell? ⟨b4,0,none⟩=some (.int .i64 (ldA m).ep)∧u.cell? ⟨b4,1,none⟩=some (.int .i64 (ldA m).pg)∧u.cell? ⟨b4,2,none⟩=some (.int .i64 (ldA m).dr)∧u.cell? ⟨b4,3,none⟩=some (.int .i64 (ldA m).wd)):=Lib.hid fun u hu=>
   have a:=(HRA.out.below HB5.out).below hu
   ⟨a.c0,a.c1,a.c2,a.c3⟩
  have HRG:Hid (∀u,Below W.heap.size W u→(u.cell? ⟨g,1,none⟩=some (.int .i64 0)∧u.cell? ⟨g,2,none⟩=some (.int .i64 0)∧u.cell? ⟨g,3,none⟩=some (.int .i64 0)∧u.cell? ⟨g,4,none⟩=some (.int .i64 0)∧u.cell? ⟨g,5,none⟩=some (.int .i64 0)∧u.cell? ⟨g,6,none⟩=some (.int .i64 0)∧u.cell? ⟨g,7,none⟩=some (.int .i64 0)∧u.cell? ⟨g,8,none⟩=some (.int .i64 0)∧u.cell? ⟨g,9,none⟩=some (.pointer none)∧u.cell? ⟨g,10,none⟩=some (.pointer none))∧∀i,u.frozen? ⟨g,i,none⟩=false):=Lib.hid fun u hu=>by
   have h:=(hu.block g (lt_of_block HG.out)).trans HG.out
   exact⟨by simp only [cell_of_row _ _ _ _ _ _ h];exact⟨rfl,rfl,rfl,rfl,rfl,rfl,rfl,rfl,rfl,rfl⟩,fun i=>frozen_of_row _ g i _ _ h⟩
  have HPG:Hid (∀u,Below W.heap.size W u→Calls Tryz.prog 74 #[.pointer (some ⟨d,0,none⟩)] u fun e w'=>e = .returned (.int .i64 (pgOf m:Int))∧u=w'):=Lib.hid fun u hu=>pagesOf_any (HD.out.below (Below.more HBW.out hu HBW.out.size)) hl
  have HUA:Hid (∀u,Below W.heap.size W u→Calls Tryz.prog 73 #[.pointer (some ⟨d,0,none⟩),.agg #[.int .i64 (ldA m).ep,.int .i64 (ldA m).pg,.int .i64 (ldA m).dr,.int .i64 (ldA m).wd]] u fun e w'=>(∃p,e = .returned (.pointer p)∧Stp w' p (usedM m (ldA m)))∧Below u.heap.size u w'):=Lib.hid fun u hu=>usedBy_any (ldA m) (HD.out.below (Below.more HBW.out hu HBW.out.size)) hup hl
  have hbg:b4≠g:=by
   have:=lt_of_block HRA.out
   have:=HG4.out
   omega
  obtain⟨a0,a1,a2,a3⟩:=HRD.out W.drew (Below.refl _ _).drew
  go_region_held_law (fun u:World=>u.cell? ⟨b4,0,none⟩=some (.int .i64 (ldA m).ep)∧u.cell? ⟨b4,1,none⟩=some (.int .i64 (ldA m).pg)∧u.cell? ⟨b4,2,none⟩=some (.int .i64 (ldA m).dr)∧u.cell? ⟨b4,3,none⟩=some (.int .i64 (ldA m).wd)) ((first
   | with_reducible exact HRD.out _ hk2
   | with_reducible exact HRD.out _ hk1
   | with_reducible exact⟨(fm_read hbg ..).trans (HRD.out _ hk2).1,(fm_read hbg ..).trans (HRD.out _ hk2).2.1,(fm_read hbg ..).trans (HRD.out _ hk2).2.2.1,(fm_read hbg ..).trans (HRD.out _ hk2).2.2.2⟩
   | go_keep)) (first
   | (go_at_call 74;refine(HPG.out _ (Below.refl _ _).drew).mono ?_;rintro e w10 ⟨rfl,rfl⟩)
   | (go_at_call 75;refine(Tb.new_any _).mono ?_;rintro e w11 ⟨rfl,hT11,hb11⟩;have hk1:Below W.heap.size W w11:=(Below.refl _ _).drew.trans hb11)
   | (go_at_call 73;refine(HUA.out _ hk1).mono ?_;rintro e w12 ⟨⟨pu,rfl,hpu⟩,hb12⟩;have hk2:Below W.heap.size W w12:=Below.more hk1 hb12 hk1.size;obtain⟨⟨g1,g2,g3,g4,g5,g6,g7,g8,g9,g10⟩,gf⟩:=HRG.out _ hk2))
  have hgw:w.heap.size≤g:=Nat.le_trans HB4.out.size HG4.out
  have HT12:Hid (Tb.Tab w12 W.heap.size (fun _=>0)):=Lib.hid (Tb.Tab.below hT11 hb12)
  have HQ:=fm_both HBW.out hk2 hgw HG.out HT12.out hpu HP5.out
  have HWS:=Lib.hid (HBW.out.size)
  have HGW:=Lib.hid hgw
  clear hk1 hk2 hT11 hb11 hb12 hpu gf g1 g2 g3 g4 g5 g6 g7 g8 g9 g10 a0 a1 a2 a3 HRD HRG HPG HUA HT12 hbg hgw HA HN HRA HP5
  generalize ((((((((((w12.setCell ⟨g,1,none⟩ (.int .i64 (ldA m).ep)).setCell ⟨g,2,none⟩ (.int .i64 (pgOf m:Int))).setCell ⟨g,3,none⟩ (.int .i64 0)).setCell ⟨g,4,none⟩ (.int .i64 0)).setCell ⟨g,5,none⟩ (.int .i64 0)).setCell ⟨g,6,none⟩ (.int .i64 0)).setCell ⟨g,7,none⟩ (.int .i64 0)).setCell ⟨g,8,none⟩ (.int .i64 0)).setCell ⟨g,9,none⟩ (.pointer (some ⟨W.heap.size,0,none⟩))).setCell ⟨g,10,none⟩ (.pointer pu))=w13 at *
  generalize W.heap.size=pt at *
  have HSE:=Lib.hid (settle_any (s:=fmtS m) HQ.out.box HQ.out.tab HQ.out.us HQ.out.od)
  go_upto_region 8 with (first
   | (go_at_call 76;refine HSE.out.mono ?_;rintro e w14 ⟨rfl,⟨pk,mb,k1,k2,hx⟩,ho⟩;have HC14:=Lib.hid (HCM.out w14 g pt pk mb pu po hx (ho.below HQ.out.bl HQ.out.bl.size HGW.out) HGW.out HWS.out (Nat.le_trans HQ.out.bl.size k1) (Nat.le_trans HQ.out.bl.size k2));clear k1 k2 hx ho)
   | (go_at_call 43;refine HC14.out.mono ?_;rintro e w15 ⟨E',rfl,hQ⟩;have HQ15:=Lib.hid hQ;clear hQ))
  by_cases hE0:E'=0
  ·subst hE0
   go_wp2_with fail
   go_ret2
   exact⟨g,0,rfl,HQ15.out⟩
  ·have hb:(E' != 0)=true:=by simpa using hE0
   have HEN:=Lib.hid hE0
   clear hE0
   go_wp2_with fail
   go_ret2
   exact⟨g,E',by rw [if_neg HEN.out];rfl,HQ15.out⟩
end
end
section
set_option maxRecDepth 20000
open Go.RowKit
theorem Base.comm {s:Sp} {pg:Nat} {L:List (List Nat)} (hB:Base s pg) (hO:OldLv L s) (hn:4*pg≤L.length) (hN:needS s≤(freeL s).length) {r:Rt} (hr:r.pg=(pg:Int)) (hm:may r=true) {L':List (List Nat)} (hL:L'.length=L.length) (hs:∀p,2≤p→pageB L' p=pageB (wrP L (plW s r)) p):SpGood (commS s r) L' pg:=by
 have hg:=plan_good hB hN hr hm
 have hl:=plan_lies hB hN hr hm hn hO
 refine⟨hg,hr,hl.stay hg (by rw [hL,wrP_len]) (fun p hp=>hs p ?_),fun l=>.inr rfl,fun l b e=>by cases e⟩
 obtain⟨h0,n,hn,e⟩:=usF_iff.1 hp
 have e:lab (planRt s r) (plL s) (plT s) n=p:=e
 have h1:=lab_src hB r n hn
 rw [e] at h1
 rcases h1 with h1 | h1 | ⟨j,hj,h1⟩
 ·omega
 ·have h2:=hB.okl
  have h3:=hB.okk
  rw [h1] at h0 ⊢
  unfold lab at h0 ⊢
  by_cases e0:n=0
  ·rw [if_pos e0] at h0;exact absurd rfl h0
  ·rw [if_neg e0] at h0 ⊢
   by_cases e5:n<5
   ·rw [if_pos e5] at h0 ⊢
    have:=h2 (n - 1) (by omega)
    unfold Tb.pgN at this
    simp at this;omega
   ·rw [if_neg e5] at h0 ⊢
    have:=h3 (n - 5)
    unfold Tb.pgN at this
    simp at this;omega
 ·rw [h1];exact(free_two hB (idx_lt hN hj)).1
def bareS (e:Int) (pg:Nat) (u o:Option (Nat→Bool)):Sp:=⟨⟨⟨e,(pg:Int),0,0⟩,fun _=>0,fun _=>0,u⟩,o,fun _=>0,fun _=>none,false⟩
theorem fmt_bare (m:Dsk):fmtS m=bareS (ldA m).ep (pgOf m) (usedM m (ldA m)) (usedM m (ldB m)):=rfl
section
variable (e:Int) (pg:Nat) (u o:Option (Nat→Bool))
theorem bare_lab (n:Nat):lab ⟨0,0,0,0⟩ (bareS e pg u o).g.lv (bareS e pg u o).kp n=0:=by
 unfold lab
 split
 ·rfl
 ·split <;> rfl
theorem bareB_zero (i:Nat):Tb.bareB (fun _=>0) i=true:=by
 unfold Tb.bareB Tb.leafF
 simp [Tb.sameN]
theorem bare_base (h4:4≤pg) (h5:pg≤512):Base (bareS e pg u o) pg:=by
 refine⟨rfl,h4,h5,⟨fun n _ h0=>absurd (bare_lab e pg u o n) h0,fun n _ k _ h0=>absurd (bare_lab e pg u o n) h0⟩,fun n _ h0=>absurd (bare_lab e pg u o n) h0,fun l=>rfl,fun i _=>rfl,fun i _ hb=>?_,fun l b h=>(by cases h),fun _ _=>rfl⟩
 have:Tb.bareB (fun _=>0) i=false:=hb
 rw [bareB_zero] at this;cases this
theorem bare_keys:(bareS e pg u o).fr.keys=[]:=by
 show Pgs.keys (fun _=>none)=[]
 unfold Pgs.keys
 simp
theorem bare_mov0 (i:Nat):movB (bareS e pg u o) i=false:=by
 unfold movB
 show (freshB (fun _=>none) i || (Tb.difB (fun _=>0) (fun _=>0) i && !Tb.bareB (fun _=>0) i))=false
 rw [bareB_zero]
 have hk:Pgs.keys (fun _=>none)=[]:=bare_keys e pg u o
 unfold freshB
 rw [hk];simp
theorem bare_movL:movL (bareS e pg u o)=[]:=by
 unfold movL Tb.mems
 rw [List.filter_eq_nil_iff]
 intro i _
 rw [bare_mov0];simp
theorem bare_need:needS (bareS e pg u o)=1:=by
 unfold needS
 rw [bare_keys,bare_movL];rfl
theorem bare_plT (l:Nat):plT (bareS e pg u o) l=0:=by
 rw [plT_not _ (by rw [bare_keys];simp)];rfl
theorem bare_old (L:List (List Nat)):OldLv L (bareS e pg u o):=fun _ _ h=>absurd rfl h
end
theorem new_sec {n:Nat} (i:Nat) (hi:i<n):sec (newM n).last i=zs128:=by
 show (List.replicate n (List.replicate 128 0)).getD i []=_
 rw [List.getD_eq_getElem?_getD,List.getElem?_replicate,if_pos hi];rfl
theorem plE_zs (k:Int):plE zs128 k=5:=by
 have h:decE zs128=5:=by
  unfold decE
  rw [if_neg (by decide),if_pos rfl]
 unfold plE
 rw [h,if_neg (by omega)]
theorem nw_zs:nwE zs128 zs128=5∧nwA zs128 zs128=Rt.none_∧nwB zs128 zs128=Rt.none_:=by
 have h:nwE zs128 zs128=5:=by
  unfold nwE
  rw [plE_zs,plE_zs];rfl
 unfold nwA nwB
 rw [h]
 exact⟨rfl,rfl,rfl⟩
theorem new_ld {n:Nat} (hn:16≤n):ldE (newM n)=5∧ldA (newM n)=Rt.none_∧ldB (newM n)=Rt.none_:=by
 have hl:(newM n).out.length=n:=by show (List.replicate n _).length=n;rw [List.length_replicate]
 have e0:readS (newM n) ((0:Nat):Int)=zs128:=(readS_up (m:=newM n) (i:=0) rfl (by omega)).trans (new_sec 0 (by omega))
 have e4:readS (newM n) ((4:Nat):Int)=zs128:=(readS_up (m:=newM n) (i:=4) rfl (by omega)).trans (new_sec 4 (by omega))
 have h:=ld_nw (m:=newM n) rfl (by omega) e0 e4
 rw [nw_zs.1,nw_zs.2.1,nw_zs.2.2] at h
 exact h
theorem used_none (m:Dsk):usedM m Rt.none_=none:=by
 have h:loadEr m Rt.none_=13:=by
  unfold loadEr
  rw [if_pos (.inl (by decide))]
 unfold usedM
 rw [h];rfl
theorem new_fmt {pg:Nat} (h4:4≤pg) (h5:pg≤512):fmtS (newM (4*pg))=bareS 0 pg none none:=by
 have h:=new_ld (n:=4*pg) (by omega)
 have hp:pgOf (newM (4*pg))=pg:=by
  unfold pgOf
  rw [show (newM (4*pg)).out.length=4*pg by show (List.replicate _ _).length=_;rw [List.length_replicate]]
  omega
 rw [fmt_bare,h.2.1,h.2.2,used_none,hp];rfl
end
section
set_option maxRecDepth 20000
open Go.RowKit
theorem bar_done (m:Dsk):(barM m).done≤m.done+1:=by
 unfold barM burns burnt
 split
 ·exact Nat.le_succ _
 ·split
  ·exact Nat.le_succ _
  ·exact Nat.le_refl _
theorem wpE_done (m:Dsk) (p:Nat) (b:List Nat):∀i,(wpE m p b i).1.done≤m.done+i
 | 0=>Nat.le_refl _
 | i+1=>by
  have ih:=wpE_done m p b i
  unfold wpE
  split
  ·omega
  ·have:=(put_bounds (wpE m p b i).1 ((4*p+i:Nat):Int) ((b.drop (i*128)).take 128)).1
   show (putM _ _ _).done≤_
   omega
theorem layW_done (m:Dsk) (ps:List (Nat × List Nat)):∀k,(layW m ps k).1.done≤m.done+4*k
 | 0=>Nat.le_refl _
 | k+1=>by
  have ih:=layW_done m ps k
  unfold layW
  split
  ·omega
  ·have:=wpE_done (layW m ps k).1 (ps.getD k (0,[])).1 (ps.getD k (0,[])).2 4
   omega
theorem layM_done (m:Dsk) (ps:List (Nat × List Nat)) (r:Rt):(layM m ps r).1.done≤m.done+4*ps.length+3:=by
 have h1:=layW_done m ps ps.length
 have h2:=bar_done (layW m ps ps.length).1
 have h3:=(put_bounds (barM (layW m ps ps.length).1) (place r.ep) (block r)).1
 have h4:=bar_done (putM (barM (layW m ps ps.length).1) (place r.ep) (block r))
 unfold layM
 split
 ·omega
 ·split
  ·show (barM _).done≤_;omega
  ·split
   ·show (putM _ _ _).done≤_;omega
   ·show (barM _).done≤_;omega
theorem need_le (s:Sp):needS s≤517:=by
 have h1:=movL_len s
 have h2:s.fr.keys.length≤512:=by
  unfold Pgs.keys
  exact Nat.le_trans (List.length_filter_le _ _) (by simp)
 unfold needS
 omega
theorem Inv.comm2 {m:Dsk} {s:Sp} {pg:Nat} (h:Inv m s pg) (hN:needS s≤(freeL s).length) (word:Int) (hm:may (nextR s word)=true) :
  (layM m (plW s (nextR s word)) (planRt s (nextR s word))).2=0∧∀p,2≤p→pageB (layM m (plW s (nextR s word)) (planRt s (nextR s word))).1.out p=pageB (wrP m.out (plW s (nextR s word))) p:=by
 have hB:=h.sp.base
 have hM:Mays (planRt s (nextR s word)):=plan_mays hB hN h.sp.pgE hm
 have hlen:=h.len
 have hp4:=hB.p4
 have hpl:place (planRt s (nextR s word)).ep=((if (s.g.r.ep+1) % 2=1 then 4 else 0:Nat):Int):=place_nat hM.e0 hM.e1
 have hlt:(if (s.g.r.ep+1) % 2=1 then 4 else 0:Nat)<m.out.length:=by split <;> omega
 have hL:=lay_laid h.up h.row (psOk hB hN (nextR s word) (by omega)) hpl hlt
 generalize layM m (plW s (nextR s word)) (planRt s (nextR s word))=M at *
 cases hL with
 | all e d r o f=>
  refine⟨e,fun p hp=>?_⟩
  rw [o]
  exact pageB_set (wrP m.out (plW s (nextR s word))) (pl:=if (s.g.r.ep+1) % 2=1 then 4 else 0) (block (planRt s (nextR s word))) (by split <;> omega)
 | cut _ _ f=>exact absurd h.fuse f
 | half _ _ f=>exact absurd h.fuse f
def Xv.new:Xv:=⟨fun _=>[],fun _=>[],fun _=>false,0,1⟩
theorem new_len (n:Nat):(newM n).out.length=n:=by show (List.replicate n _).length=n;rw [List.length_replicate]
theorem first_free {pg:Nat} (h4:4≤pg) (h5:pg≤512):needS (bareS 0 pg none none)≤(freeL (bareS 0 pg none none)).length:=by
 rw [bare_need]
 have h:2∈freeL (bareS 0 pg none none):=(free_mem (bare_base 0 pg none none h4 h5)).2 ⟨by omega,Nat.le_refl _,rfl⟩
 exact List.length_pos_of_mem h
theorem first_may {pg:Nat} (h4:4≤pg) (h5:pg≤512):may (nextR (bareS 0 pg none none) 0)=true:=by
 refine Mays.may (r:=⟨0+1,(pg:Int),2,0⟩) ⟨by show (1:Int)≤0+1;omega,by show (0:Int)+1≤4611686018427387904;omega,by show (4:Int)≤(pg:Int);omega,by show (pg:Int)≤512;omega,by show (2:Int)≤2;omega,by show (2:Int)<(pg:Int);omega,by show (0:Int)≤0;omega,by show (0:Int)≤2147483647;omega⟩
theorem first_inv {pg:Nat} (h4:4≤pg) (h5:pg≤512) (hok:Ok (layM (newM (4*pg)) (plW (bareS 0 pg none none) (nextR (bareS 0 pg none none) 0)) (planRt (bareS 0 pg none none) (nextR (bareS 0 pg none none) 0))).1) :
  (layM (newM (4*pg)) (plW (bareS 0 pg none none) (nextR (bareS 0 pg none none) 0)) (planRt (bareS 0 pg none none) (nextR (bareS 0 pg none none) 0))).2=0∧Inv (layM (newM (4*pg)) (plW (bareS 0 pg none none) (nextR (bareS 0 pg none none) 0)) (planRt (bareS 0 pg none none) (nextR (bareS 0 pg none none) 0))).1 (commS (bareS 0 pg none none) (nextR (bareS 0 pg none none) 0)) pg ∧
    Sim (commS (bareS 0 pg none none) (nextR (bareS 0 pg none none) 0)) (layM (newM (4*pg)) (plW (bareS 0 pg none none) (nextR (bareS 0 pg none none) 0)) (planRt (bareS 0 pg none none) (nextR (bareS 0 pg none none) 0))).1.out Xv.new∧sec (layM (newM (4*pg)) (plW (bareS 0 pg none none) (nextR (bareS 0 pg none none) 0)) (planRt (bareS 0 pg none none) (nextR (bareS 0 pg none none) 0))).1.out 0=zs128:=by
 have hB:=bare_base 0 pg none none h4 h5
 have hN:=first_free h4 h5
 have hm:=first_may h4 h5
 have hT:∀l,plT (bareS 0 pg none none) l=0:=bare_plT 0 pg none none
 have hO:=bare_old 0 pg none none (newM (4*pg)).out
 have hpgE:(bareS 0 pg none none).g.r.pg=(pg:Int):=rfl
 have hep:(bareS 0 pg none none).g.r.ep=0:=rfl
 generalize bareS 0 pg none none=s at *
 have hM:Mays (planRt s (nextR s 0)):=plan_mays hB hN hpgE hm
 have hlen:=new_len (4*pg)
 have hpe:(planRt s (nextR s 0)).ep=1:=by show s.g.r.ep+1=1;rw [hep];rfl
 have hpl:place (planRt s (nextR s 0)).ep=((4:Nat):Int):=by rw [hpe];rfl
 have hL:=lay_laid (m:=newM (4*pg)) rfl rfl (psOk hB hN (nextR s 0) (by omega)) hpl (by omega)
 have hlow:=low_stay (L:=(newM (4*pg)).out) hB hN (nextR s 0)
 generalize hMM:layM (newM (4*pg)) (plW s (nextR s 0)) (planRt s (nextR s 0))=M at *
 have hwl:=wrP_len (newM (4*pg)).out (plW s (nextR s 0))
 cases hL with
 | all e d r o f=>
  have hsec:∀k,sec M.1.out k=if k=4 then block (planRt s (nextR s 0)) else sec (wrP (newM (4*pg)).out (plW s (nextR s 0))) k:=fun k=>by
   rw [o,sec_set _ (by omega)]
   by_cases e:k=4
   ·subst e;rw [if_pos rfl]
   ·rw [if_neg (fun h=>e h.symm),if_neg e]
  have hz:sec M.1.out 0=zs128:=by
   rw [hsec 0,if_neg (by omega),hlow 0 (by omega)]
   exact new_sec 0 (by omega)
  have h44:sec M.1.out 4=block (planRt s (nextR s 0)):=by rw [hsec 4,if_pos rfl]
  refine⟨e,⟨d,r,f rfl,by rw [o,List.length_set,hwl];exact hlen,hok,?_,?_⟩,?_,hz⟩
  ·exact Base.comm (r:=nextR s 0) hB hO (by omega) hN hpgE hm (by rw [o,List.length_set,hwl]) (fun p hp=>by rw [o];exact pageB_set _ _ (by omega))
  ·refine⟨hM,by rw [hz];decide,by rw [h44];exact block_len _,?_,fun k hk=>?_⟩
   ·show sec M.1.out (if (planRt s (nextR s 0)).ep % 2=1 then 4 else 0)=_
    rw [hpe];exact h44
   ·have hk:k=(if (planRt s (nextR s 0)).ep % 2=1 then 0 else 4):=hk
    rw [hpe] at hk
    have hk:k=0:=hk
    subst hk
    rw [hz,plE_zs];exact .inl (by omega)
  ·have hc:∀l,comS (commS s (nextR s 0)) M.1.out l=[]:=fun l=>by
    unfold comS
    show (if plT s l=0 then [] else _)=[]
    rw [if_pos (hT l)]
   refine⟨fun l _=>(hc l).symm,fun l _=>?_,fun _ _=>rfl,rfl,?_⟩
   ·exact(hc l).symm
   ·show (1:Int)=s.g.r.ep+1;rw [hep];rfl
 | cut _ _ f=>exact absurd rfl f
 | half _ _ f=>exact absurd rfl f
end
section
set_option maxRecDepth 20000
open Go.RowKit
theorem usF_two {r:Rt} {lv tb:Nat→Nat} (hd:2≤r.dr) (hl:∀i,i<4→Tb.pgN (lv i)=true) (ht:Tb.Ok tb) (hA:ApartS r lv tb) {p:Nat} (hp:usF r lv tb p=true):2≤p∧(p:Int)<r.pg:=by
 obtain⟨h0,n,hn,rfl⟩:=usF_iff.1 hp
 refine⟨?_,hA.lt n (List.mem_range.2 hn) h0⟩
 unfold lab at h0 ⊢
 by_cases e0:n=0
 ·rw [if_pos e0] at h0 ⊢;omega
 ·rw [if_neg e0] at h0 ⊢
  by_cases e5:n<5
  ·rw [if_pos e5] at h0 ⊢
   have:=hl (n - 1) (by omega)
   unfold Tb.pgN at this
   simp at this;omega
  ·rw [if_neg e5] at h0 ⊢
   have:=ht (n - 5)
   unfold Tb.pgN at this
   simp at this;omega
def OdOk (s:Sp) (pg:Nat):Prop:=∀f,s.od=some f→∀p,f p=true→2≤p∧p<pg
theorem us_in {s:Sp} {L:List (List Nat)} {pg:Nat} (h:SpGood s L pg) {p:Nat} (hp:usF s.g.r s.g.lv s.g.tb p=true):2≤p∧p<pg:=by
 have h1:=usF_two h.g.mays.d0 h.g.okl h.g.okt h.g.ap hp
 have h2:=h.pgE
 omega
theorem held_in {s:Sp} {L:List (List Nat)} {pg:Nat} (h:SpGood s L pg) (ho:OdOk s pg) {p:Nat} (hp:heldS s p=true):2≤p∧p<pg:=by
 unfold heldS orB at hp
 rw [h.g.us] at hp
 cases e:s.od with
 | none=>
  rw [e] at hp
  exact us_in h (by simpa using hp)
 | some f=>
  rw [e] at hp
  simp only [Bool.false_or,Bool.or_eq_true] at hp
  rcases hp with hp | hp
  ·exact us_in h hp
  ·exact ho f e p hp
theorem od_comm {s:Sp} {L:List (List Nat)} {pg:Nat} (h:SpGood s L pg) (r:Rt):OdOk (commS s r) pg:=fun f e p hp=>by
 have e:s.g.us=some f:=e
 rw [h.g.us] at e
 cases e
 exact us_in h hp
theorem fil_cnt (f:Nat→Bool) (h:∀p,f p=true→2≤p):∀n,((List.range n).filter (frB f)).length+Bi.cnt f n=n - 2
 | 0=>rfl
 | n+1=>by
  have ih:=fil_cnt f h n
  rw [List.range_succ,List.filter_append,List.length_append]
  show _+(Bi.cnt f n+(f n).toNat)=_
  have e:((List.filter (frB f) [n]).length:Nat)=(frB f n).toNat:=by
   cases e:frB f n <;> simp [e]
  rw [e]
  unfold frB
  cases e2:f n
  ·by_cases h2:2≤n
   ·rw [decide_eq_true h2]
    show _+1+(_+0)=_
    unfold frB at ih
    omega
   ·rw [decide_eq_false h2]
    show _+0+(_+0)=_
    unfold frB at ih
    omega
  ·have h2:=h n e2
   rw [decide_eq_true h2]
   show _+0+(_+1)=_
   unfold frB at ih
   omega
theorem free_len {s:Sp} {L:List (List Nat)} {pg:Nat} (h:SpGood s L pg) (ho:OdOk s pg):(freeL s).length+Bi.cnt (heldS s) 512=pg - 2:=by
 have h1:=fil_cnt (heldS s) (fun p hp=>(held_in h ho hp).1) pg
 have hp:=h.pgs.2.1
 rw [Bi.cnt_skip (f:=heldS s) (i:=pg) (j:=512) hp (fun x hx _=>by
  cases e:heldS s x
  ·rfl
  ·have:=(held_in h ho e).2;omega)]
 unfold freeL
 rw [h.pgE,Int.toNat_natCast]
 exact h1
end
section
set_option maxRecDepth 20000
open Go.RowKit
theorem sec_set_ne {L:List (List Nat)} {i j:Nat} (x:List Nat) (h:i≠j):sec (L.set i x) j=sec L j:=by
 unfold sec
 rw [List.getD_eq_getElem?_getD,List.getD_eq_getElem?_getD,List.getElem?_set_ne h]
def RootO (L:List (List Nat)) (r:Rt):Prop:=∀k,k=(if r.ep % 2=1 then 0 else 4)→∃was,(was=Rt.none_∨Mays was)∧was.ep<r.ep∧sec L k=oldB was
theorem oldB_mays {r:Rt} (h:Mays r):oldB r=block r:=by
 have:=h.e0
 unfold oldB;rw [if_neg (by omega)]
theorem RootO.next {L L':List (List Nat)} {r r':Rt} (h:RootIs L r) (he:r'.ep=r.ep+1) (hs:∀j,j<8→sec L' j=sec L j) {pl:Nat} (hp:pl=(if r'.ep % 2=1 then 4 else 0)):RootO (L'.set pl (block r')) r':=fun k hk=>by
 have hne:pl≠k:=by rw [hp,hk];split <;> omega
 have hk8:k<8:=by rw [hk];split <;> omega
 have hko:k=(if r.ep % 2=1 then 4 else 0):=by
  rw [hk,he]
  by_cases ho:r.ep % 2=1
  ·rw [if_pos ho,if_neg (by omega)]
  ·rw [if_neg ho,if_pos (by omega)]
 refine⟨r,.inr h.mays,by omega,?_⟩
 rw [sec_set_ne _ hne,hs k hk8,hko,h.at_,oldB_mays h.mays]
theorem Inv.comm3 {m:Dsk} {s:Sp} {pg:Nat} (h:Inv m s pg) (hN:needS s≤(freeL s).length) (word:Int) (hm:may (nextR s word)=true) :
  RootO (layM m (plW s (nextR s word)) (planRt s (nextR s word))).1.out (planRt s (nextR s word)):=by
 have hB:=h.sp.base
 have hM:Mays (planRt s (nextR s word)):=plan_mays hB hN h.sp.pgE hm
 have hlen:=h.len
 have hp4:=hB.p4
 have hpl:place (planRt s (nextR s word)).ep=((if (s.g.r.ep+1) % 2=1 then 4 else 0:Nat):Int):=place_nat hM.e0 hM.e1
 have hlt:(if (s.g.r.ep+1) % 2=1 then 4 else 0:Nat)<m.out.length:=by split <;> omega
 have hL:=lay_laid h.up h.row (psOk hB hN (nextR s word) (by omega)) hpl hlt
 generalize layM m (plW s (nextR s word)) (planRt s (nextR s word))=M at *
 cases hL with
 | all e d r o f=>
  rw [o]
  exact RootO.next h.rt rfl (fun j hj=>low_stay hB hN _ j hj) rfl
 | cut _ _ f=>exact absurd h.fuse f
 | half _ _ f=>exact absurd h.fuse f
end
section
set_option maxRecDepth 20000
open Go.RowKit
theorem Chg.of_below2 {w w':World} (F:List Nat) (h:Below w.heap.size w w'):Chg F F w w':=
 ⟨h.os,h.tape,h.output,h.size,fun k hk _=>h.block k hk,fun _ hk=>.inl hk⟩
structure Rest (w:World) (d g:Nat) (F G:List Nat) (m:Dsk) (s:Sp) (pg:Nat):Prop where
 dk:Dk w d F m
 sp:Spc w g G d s
 inv:Inv m s pg
 dn:m.done≤2305843009213693951
 ep:0≤s.g.r.ep∧s.g.r.ep≤2305843009213693951
theorem Inv.pgle {m:Dsk} {s:Sp} {pg:Nat} (h:Inv m s pg):4≤pg∧pg≤512:=⟨h.sp.pgs.1,h.sp.pgs.2.1⟩
theorem getD_memP {l:List (Nat × List Nat)} {i:Nat} (h:i<l.length):l.getD i (0,[])∈l:=by rw [List.getD_eq_getElem?_getD,List.getElem?_eq_getElem h];exact List.getElem_mem _
section
variable {w:World} {d g:Nat} {F G:List Nat} {m:Dsk} {s:Sp} {pg:Nat}
theorem may_word (h:Inv m s pg) (he:0≤s.g.r.ep∧s.g.r.ep≤4611686018427387903) (word:Int):may (nextR s word)=(decide (0≤word) && decide (word≤2147483647)):=by
 have h1:=h.pgle
 have h2:=h.sp.pgE
 have h3:=he.1
 have h4:=he.2
 rw [Bool.eq_iff_iff]
 constructor
 ·intro hm
  have:=may_yes hm
  have a:=this.w0
  have b:=this.w1
  have a:0≤word:=a
  have b:word≤2147483647:=b
  simp [a,b]
 ·intro hm
  simp only [Bool.and_eq_true,decide_eq_true_eq] at hm
  exact Mays.may (r:=⟨s.g.r.ep+1,s.g.r.pg,2,word⟩) ⟨by show 1≤s.g.r.ep+1;omega,by show s.g.r.ep+1≤_;omega,by show 4≤s.g.r.pg;omega,by show s.g.r.pg≤512;omega,by show (2:Int)≤2;omega,by show 2<s.g.r.pg;omega,hm.1,hm.2⟩
def CmtR (s:Sp) (m:Dsk) (word:Int) (d g:Nat) (F G:List Nat) (pg:Nat) (w w':World):Prop:=
 ∃m' F' G',Dk w' d F' m'∧Spc w' g G' d (commS s (nextR s word))∧Chg (F++G) (F'++G') w w'∧Inv m' (commS s (nextR s word)) pg∧m'.done≤m.done+3000∧(∀x,Sim s m.out x→Sim (commS s (nextR s word)) m'.out (x.commit word))∧RootO m'.out (planRt s (nextR s word))
theorem commit_sp (h:Rest w d g F G m s pg) (word:Int) :
  Calls Tryz.prog 43 #[.pointer (some ⟨g,0,none⟩),.int .i64 word] w fun e w'=>
   ((0≤word∧word≤2147483647)=False∧e = .returned (.int .i64 7)∧Below w.heap.size w w') ∨
   ((0≤word∧word≤2147483647)∧(freeL s).length<needS s∧e = .returned (.int .i64 8)∧Below w.heap.size w w') ∨
   ((0≤word∧word≤2147483647)∧needS s≤(freeL s).length∧e = .returned (.int .i64 0)∧CmtR s m word d g F G pg w w'):=by
 obtain⟨pt,pk,mb,pu,po,hS,rfl⟩:=h.sp
 have hI:=h.inv
 have hep:=h.ep
 have hdn:=h.dn
 have hmw:=may_word hI ⟨hep.1,by have:=hep.2;omega⟩ word
 have hpg:=hI.pgle
 have hpgE:=hI.sp.pgE
 have he1:-9223372036854775808≤s.g.r.ep∧s.g.r.ep≤4611686018427387904:=⟨by have:=hep.1;omega,by have:=hep.2;omega⟩
 cases hm:may (nextR s word)
 ·refine(commit_range hS word he1 hm).mono ?_
  rintro e w' ⟨rfl,hb⟩
  refine .inl ⟨?_,rfl,hb⟩
  rw [hm] at hmw
  refine eq_false fun hh=>?_
  rw [decide_eq_true hh.1,decide_eq_true hh.2] at hmw
  cases hmw
 ·have hw:0≤word∧word≤2147483647:=by
   rw [hm] at hmw
   have:=hmw.symm
   simpa [Bool.and_eq_true] using this
  by_cases hf:(freeL s).length<needS s
  ·refine(commit_full hS word he1 hm pg hpgE hpg.2 hf).mono ?_
   rintro e w' ⟨rfl,hb⟩
   exact .inr (.inl ⟨hw,hf,rfl,hb⟩)
  ·have hN:needS s≤(freeL s).length:=Nat.le_of_not_lt hf
   have hB:=hI.sp.base
   have hnl:=need_le s
   have hpl:=plW_len s (nextR s word)
   have hC2:=hI.comm2 hN word hm
   have hln:=hI.len
   refine(commit_go hS h.dk word he1 hm pg hpgE hpg.2 hN (fun k hk=>?_) (by omega) (plan_mays hB hN hpgE hm) (by omega) (by omega) (by rw [hI.row];exact Nat.zero_le _)).mono ?_
   ·have h1:=plW_ok hB hN (nextR s word) (getD_memP hk)
    exact⟨h1.1,h1.2.1,by have:=h1.2.2;omega⟩
   ·rintro e w' ⟨rfl,F',G',hD,hC,hR⟩
    have hcm:=hI.comm hN word hm hD.ok
    rcases hR with ⟨h0,_⟩ | ⟨h0,hsp⟩
    ·exact absurd hcm.1 h0
    ·refine .inr (.inr ⟨hw,hN,by rw [h0],_,F',G',hD,hsp,hC,hcm.2,?_,fun x hx=>hx.comm hI.sp hN word hC2.2,hI.comm3 hN word hm⟩)
     have:=layM_done m (plW s (nextR s word)) (planRt s (nextR s word))
     omega
def newS (pg:Nat):Sp:=commS (bareS 0 pg none none) (nextR (bareS 0 pg none none) 0)
theorem chg_more {w u w':World} {F F' G G':List Nat} (hb:Below w.heap.size w u) (hc:Chg (F++G) (F'++G') u w') (hF:∀k∈G,w.heap.size≤k):Chg F (F'++G') w w':=
 ⟨hc.os.trans hb.os,hc.tape.trans hb.tape,hc.output.trans hb.output,Nat.le_trans hb.size hc.size,fun k hk hn=>(hc.block k (Nat.lt_of_lt_of_le hk hb.size) (fun h=>(List.mem_append.1 h).elim hn (fun h2=>absurd hk (Nat.not_lt.2 (hF k h2))))).trans (hb.block k hk),fun k hk=>(hc.fresh k hk).elim (fun h=>(List.mem_append.1 h).imp id (hF k)) (fun h=>.inr (Nat.le_trans hb.size h))⟩
theorem format_new {pg:Nat} (h4:4≤pg) (h5:pg≤512) (hD:Dk w d F (newM (4*pg))) :
  Calls Tryz.prog 34 #[.pointer (some ⟨d,0,none⟩)] w fun e w'=>∃g F' G m,e = .returned (.tuple #[.pointer (some ⟨g,0,none⟩),.int .i64 0])∧Rest w' d g F' G m (newS pg) pg∧Chg F (F'++G) w w'∧Sim (newS pg) m.out Xv.new∧m.done≤100∧RootO m.out (newS pg).g.r:=by
 have hl:=new_len (4*pg)
 have hld:=new_ld (n:=4*pg) (by omega)
 refine(format_go hD rfl (by omega) (.inr (.inl hld.1)) (fun g E w'=>E=0∧∃F' G m,Rest w' d g F' G m (newS pg) pg∧Chg F (F'++G) w w'∧Sim (newS pg) m.out Xv.new∧m.done≤100∧RootO m.out (newS pg).g.r) ?_).mono ?_
 ·intro u g pt pk mb pu po hS hb k1 k2 k3 k4
  rw [new_fmt h4 h5] at hS
  have hB:=bare_base 0 pg none none h4 h5
  have hN:=first_free h4 h5
  have hm:=first_may h4 h5
  have hnd:=bare_need 0 pg none none
  have hpl:=plW_len (bareS 0 pg none none) (nextR (bareS 0 pg none none) 0)
  refine(commit_go hS (hD.below hb) 0 ⟨by show -9223372036854775808≤(0:Int);omega,by show (0:Int)≤4611686018427387904;omega⟩ hm pg rfl h5 hN (fun k hk=>?_) (by omega) (plan_mays hB hN rfl hm) (by show (pg:Int)*4≤_;rw [hl];omega) (by show (0:Nat)≤_;omega) (by show (0:Nat)≤_;omega)).mono ?_
  ·have h1:=plW_ok hB hN (nextR (bareS 0 pg none none) 0) (getD_memP hk)
   exact⟨h1.1,h1.2.1,by have:=h1.2.2;omega⟩
  ·rintro e w' ⟨rfl,F',G',hD',hC,hR⟩
   have hf:=first_inv h4 h5 hD'.ok
   have hdn:=layM_done (newM (4*pg)) (plW (bareS 0 pg none none) (nextR (bareS 0 pg none none) 0)) (planRt (bareS 0 pg none none) (nextR (bareS 0 pg none none) 0))
   have hd0:(newM (4*pg)).done=0:=rfl
   rcases hR with ⟨h0,_⟩ | ⟨h0,hsp⟩
   ·exact absurd hf.1 h0
   ·refine⟨_,rfl,h0,F',G',_,⟨hD',hsp,hf.2.1,by omega,by show (0:Int)≤0+1∧(0:Int)+1≤_;omega⟩,chg_more hb hC (fun k hk=>?_),hf.2.2.1,by omega,fun k hk=>⟨Rt.none_,.inl rfl,(by show (0:Int)<0+1;omega),by
     have hk:k=(if ((0:Int)+1) % 2=1 then 0 else 4):=hk
     rw [hk,oldB_none];exact hf.2.2.2⟩⟩
    simp only [List.mem_cons,List.not_mem_nil,or_false] at hk
    rcases hk with rfl | rfl | rfl | rfl <;> assumption
 ·rintro e w' ⟨g,E,rfl,h0,F',G,m,h1,h2,h3,h6⟩
  subst h0
  exact⟨g,F',G,m,rfl,h1,h2,h3,h6⟩
end
end
end Go.Proofs.YtmbecjlioogbhaaGreatDoor
