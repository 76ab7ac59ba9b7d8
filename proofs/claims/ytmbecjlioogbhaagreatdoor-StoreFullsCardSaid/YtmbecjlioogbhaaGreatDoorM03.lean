/- Texts BOf to TEqA of this seat, laid into one. -/
import Derived.Deep.MidRow
import Derived.Deep.WholeRow
import Derived.ChangeKeysEq
import Derived.RangeFuncNested
import Derived.RangeFuncBound
import Derived.RangeFuncCalls
import Derived.RangeFuncLeaves
import Derived.RangeFuncBox
import Derived.Shelf.Abstract
import Derived.Shelf.RegionOpen
import Derived.WalkKit
import Derived.OwnWalkIn
import Derived.TacticsInMore
import Derived.LoopNIn
import Derived.LoopIn
import Derived.Great.BuildSlice
import Derived.Test.YtmbecjlioogbhaaGreatDoorM02
set_option linter.unusedVariables false
set_option linter.unusedSimpArgs false
set_option linter.constructorNameAsVariable false
section
set_option maxRecDepth 20000
namespace Go.Proofs.YtmbecjlioogbhaaGreatDoor.Bi
open Go.RowKit
theorem trs_nil:trs []=fun _=>false:=by funext i;exact trs_far (by simp)
theorem cut_false (n:Nat):cut n (fun _=>false)=fun _=>false:=by funext i;unfold cut;simp
theorem new_yes (n:Nat) (w:World) (hn:n≤2048) :
  Calls Tryz.prog 207 #[.int .i64 (n:Int)] w fun e w'=>(∃g b,e = .returned (.tuple #[.pointer (some ⟨g,0,none⟩),.int .i64 0])∧w.heap.size≤g∧w.heap.size≤b∧Sat w' g b n (fun _=>false))∧Below w.heap.size w w':=by
 have HF:=Lib.hid (fun w=>fit_any n none 0 0 [] w hn (by omega) (Bys.zero w none))
 rw [trs_nil,cut_false] at HF
 have HM:Hid (∀w,Calls Tryz.prog 212 #[.int .i64 (n:Int)] w fun e w'=>e = .returned (.bool true)∧w=w'):=Lib.hid fun w=>by
  have h:=may_any (n:Int) w
  rwa [decide_eq_true (show (0:Int)≤(n:Int) by omega),decide_eq_true (show (n:Int)≤2048 by omega)] at h
 clear hn
 go_enter Tryz.func207,Tryz.ntmps207
 go_wp2_with (first
  | (go_at_call 212;refine(HM.out _).mono ?_;rintro e w7 ⟨rfl,rfl⟩)
  | (go_at_call 214;refine(HF.out _).mono ?_;rintro e w7 ⟨⟨g,b,rfl,h1,h2,hS⟩,hb⟩))
 go_ret2
 exact⟨⟨g,b,rfl,h1,h2,hS⟩,hb⟩
theorem may_no {x:Int} (h:¬ (0≤x∧x≤2048)) (w:World):Calls Tryz.prog 212 #[.int .i64 x] w fun e w'=>e = .returned (.bool false)∧w=w':=by
 have h2:=may_any x w
 have e:(decide (0≤x) && decide (x≤2048))=false:=by
  by_cases h0:0≤x
  ·rw [decide_eq_false (show ¬ x≤2048 by omega),Bool.and_false]
  ·rw [decide_eq_false h0,Bool.false_and]
 rwa [e] at h2
def ofE (x:Int) (bs:List Nat):Int:=
 if ¬ (0≤x∧x≤2048) then 1 else if need x.toNat<bs.length then 2 else if bs.length<need x.toNat then 3
 else if rowF (cut x.toNat (trs bs)) (need x.toNat)=bs then 0 else 4
def OfR (W w':World) (x:Int) (bs:List Nat) (v:Value):Prop:=
 (ofE x bs=0∧∃g b,v = .pointer (some ⟨g,0,none⟩)∧W.heap.size≤g∧W.heap.size≤b∧Sat w' g b x.toNat (trs bs))∨(ofE x bs≠0∧v = .pointer none)
theorem cut_trs {n:Nat} {bs:List Nat} (hl:bs.length=need n) (h:rowF (cut n (trs bs)) (need n)=bs):cut n (trs bs)=trs bs:=by
 funext i
 by_cases hi:i<n
 ·unfold cut;rw [decide_eq_true hi,Bool.true_and]
 ·have h1:cut n (trs bs) i=false:=by unfold cut;rw [decide_eq_false hi];rfl
  rw [h1]
  by_cases h2:i<8*need n
  ·have h3:=trs_rowF (f:=cut n (trs bs)) h2
   rw [h,h1] at h3;exact h3.symm
  ·exact(trs_far (by rw [hl];omega)).symm
set_option maxHeartbeats 800000 in
theorem of_any (x:Int) (p:Option Addr) (k c:Nat) (bs:List Nat) (w:World) (hk:k≤140737488351232) (hB:Bys w p k bs) :
  Calls Tryz.prog 191 #[.int .i64 x,.slice p k c] w fun e w'=>(∃v,e = .returned (.tuple #[v,.int .i64 (ofE x bs)])∧OfR w w' x bs v)∧Below w.heap.size w w':=by
 have hl:=hB.len
 by_cases hin:0≤x∧x≤2048
 ·obtain⟨n,rfl⟩:=Int.eq_ofNat_of_zero_le hin.1
  have hn:n≤2048:=by omega
  have HM:Hid (∀w,Calls Tryz.prog 212 #[.int .i64 (n:Int)] w fun e w'=>e = .returned (.bool true)∧w=w'):=Lib.hid fun w=>by
   have h:=may_any (n:Int) w
   rwa [decide_eq_true (show (0:Int)≤(n:Int) by omega),decide_eq_true (show (n:Int)≤2048 by omega)] at h
  have HN:=Lib.hid (fun w=>need_any n w (by omega))
  by_cases h1:need n<k
  ·have hE:ofE (n:Int) bs=2:=by unfold ofE;rw [if_neg (not_not_intro hin),if_pos (by rw [Int.toNat_natCast,hl];exact h1)]
   have hd:decide ((need n:Int)<(k:Int))=true:=decide_eq_true (by omega)
   have hdn:decide (need n<k)=true:=decide_eq_true h1
   rw [hE]
   have HE:=Lib.hid hE
   clear hin hn hB hk hE h1
   go_enter Tryz.func191,Tryz.ntmps191
   go_wp2_with (first
    | (go_at_call 212;refine(HM.out _).mono ?_;rintro e w7 ⟨rfl,rfl⟩)
    | (go_at_call 213;refine(HN.out _).mono ?_;rintro e w7 ⟨rfl,rfl⟩))
   go_ret2
   exact⟨⟨_,rfl,.inr ⟨by rw [HE.out];decide,rfl⟩⟩,Below.refl _ _⟩
  ·have hd:decide ((need n:Int)<(k:Int))=false:=decide_eq_false (by omega)
   have hdn:decide (need n<k)=false:=decide_eq_false h1
   by_cases h2:k<need n
   ·have hE:ofE (n:Int) bs=3:=by unfold ofE;rw [if_neg (not_not_intro hin),if_neg (by rw [Int.toNat_natCast,hl];exact h1),if_pos (by rw [Int.toNat_natCast,hl];exact h2)]
    have hd2:decide ((k:Int)<(need n:Int))=true:=decide_eq_true (by omega)
    have hd2n:decide (k<need n)=true:=decide_eq_true h2
    rw [hE]
    have HE:=Lib.hid hE
    clear hin hn hB hk hE h1 h2
    go_enter Tryz.func191,Tryz.ntmps191
    go_wp2_with (first
     | (go_at_call 212;refine(HM.out _).mono ?_;rintro e w7 ⟨rfl,rfl⟩)
     | (go_at_call 213;refine(HN.out _).mono ?_;rintro e w7 ⟨rfl,rfl⟩))
    go_ret2
    exact⟨⟨_,rfl,.inr ⟨by rw [HE.out];decide,rfl⟩⟩,Below.refl _ _⟩
   ·have hd2:decide ((k:Int)<(need n:Int))=false:=decide_eq_false (by omega)
    have hd2n:decide (k<need n)=false:=decide_eq_false h2
    have hkn:k=need n:=by omega
    have HF:=Lib.hid (fit_any n p k c bs w hn hk hB)
    have HB:=Lib.hid hB
    by_cases h3:rowF (cut n (trs bs)) (need n)=bs
    ·have hE:ofE (n:Int) bs=0:=by unfold ofE;rw [if_neg (not_not_intro hin),if_neg (by rw [Int.toNat_natCast,hl];exact h1),if_neg (by rw [Int.toNat_natCast,hl];exact h2),if_pos (by rw [Int.toNat_natCast];exact h3)]
     have HE:=Lib.hid hE
     have HC:=Lib.hid (cut_trs (by omega) h3)
     have H3:=Lib.hid (decide_eq_true h3)
     rw [hE]
     clear hin hn hB hk hE h1 h2 h3 hkn
     go_enter Tryz.func191,Tryz.ntmps191
     go_wp2_with (first
      | (go_at_call 212;refine(HM.out _).mono ?_;rintro e w7 ⟨rfl,rfl⟩)
      | (go_at_call 213;refine(HN.out _).mono ?_;rintro e w7 ⟨rfl,rfl⟩)
      | (go_at_call 214;refine HF.out.mono ?_;rintro e w7 ⟨⟨g,b,rfl,hg1,hg2,hS⟩,hb⟩;have l1:=hS.c1)
      | (go_at_call 193;refine(equal_any _ _ _ _ _ _ _ _ _ hS.bys (HB.out.below hb)).mono ?_;rintro e w8 ⟨rfl,rfl⟩;rw [H3.out]))
     go_ret2
     exact⟨⟨_,rfl,.inl ⟨HE.out,g,b,rfl,hg1,hg2,by rw [Int.toNat_natCast,←HC.out];exact hS⟩⟩,hb⟩
    ·have hE:ofE (n:Int) bs=4:=by unfold ofE;rw [if_neg (not_not_intro hin),if_neg (by rw [Int.toNat_natCast,hl];exact h1),if_neg (by rw [Int.toNat_natCast,hl];exact h2),if_neg (by rw [Int.toNat_natCast];exact h3)]
     have HE:=Lib.hid hE
     have H3:=Lib.hid (decide_eq_false h3)
     rw [hE]
     clear hin hn hB hk hE h1 h2 h3 hkn
     go_enter Tryz.func191,Tryz.ntmps191
     go_wp2_with (first
      | (go_at_call 212;refine(HM.out _).mono ?_;rintro e w7 ⟨rfl,rfl⟩)
      | (go_at_call 213;refine(HN.out _).mono ?_;rintro e w7 ⟨rfl,rfl⟩)
      | (go_at_call 214;refine HF.out.mono ?_;rintro e w7 ⟨⟨g,b,rfl,hg1,hg2,hS⟩,hb⟩;have l1:=hS.c1)
      | (go_at_call 193;refine(equal_any _ _ _ _ _ _ _ _ _ hS.bys (HB.out.below hb)).mono ?_;rintro e w8 ⟨rfl,rfl⟩;rw [H3.out]))
     go_ret2
     exact⟨⟨_,rfl,.inr ⟨by rw [HE.out];decide,rfl⟩⟩,hb⟩
 ·have HM:=Lib.hid (may_no hin)
  have hE:ofE x bs=1:=by unfold ofE;rw [if_pos hin]
  rw [hE]
  have HE:=Lib.hid hE
  clear hin hB hk hE
  go_enter Tryz.func191,Tryz.ntmps191
  go_wp2_with (go_at_call 212;refine(HM.out _).mono ?_;rintro e w7 ⟨rfl,rfl⟩)
  go_ret2
  exact⟨⟨_,rfl,.inr ⟨by rw [HE.out];decide,rfl⟩⟩,Below.refl _ _⟩
end Go.Proofs.YtmbecjlioogbhaaGreatDoor.Bi
end
section
namespace Go.Proofs.YtmbecjlioogbhaaGreatDoor.Tb
open Go.Proofs.YtmbecjlioogbhaaGreatDoor.Bi
open Go.RowKit
def ints (f:Nat→Nat) (a n:Nat):List Value:=(List.range n).map fun j=>Value.int .i64 ((f (a+j):Nat):Int)
theorem ints_len (f:Nat→Nat) (a n:Nat):(ints f a n).length=n:=by simp [ints]
theorem ints_get (f:Nat→Nat) (a n j:Nat) (h:j<n):(ints f a n)[j]?=some (.int .i64 ((f (a+j):Nat):Int)):=by
 unfold ints;rw [List.getElem?_map,List.getElem?_range h];rfl
theorem ints_one (f:Nat→Nat) (a n:Nat):∀v∈ints f a n,v.oneCell'=true:=by
 intro v hv
 obtain⟨j,_,rfl⟩:=List.mem_map.1 hv
 rfl
theorem ints_congr {f g:Nat→Nat} {a b n:Nat} (h:∀j,j<n→f (a+j)=g (b+j)):ints f a n=ints g b n:=
 List.map_congr_left fun j hj=>by rw [h j (List.mem_range.1 hj)]
theorem ints_cons (f:Nat→Nat) (a n:Nat):ints f a (n+1) = .int .i64 ((f a:Nat):Int) :: ints f (a+1) n:=by
 unfold ints
 rw [List.range_succ_eq_map,List.map_cons,List.map_map]
 congr 1
 exact List.map_congr_left fun j _=>by simp only [Function.comp_apply];rw [show a+(j+1)=a+1+j by omega]
def rowA (f:Nat→Nat) (n:Nat):Array Value:=(ints f 0 n).toArray
theorem rowA_size (f:Nat→Nat) (n:Nat):(rowA f n).size=n:=by simp [rowA,ints_len]
theorem rowA_get (f:Nat→Nat) (n i:Nat) (h:i<n):(rowA f n)[i]?=some (.int .i64 ((f i:Nat):Int)):=by
 have:=ints_get f 0 n i h
 rw [Nat.zero_add] at this
 simpa [rowA] using this
theorem rowA_ext {f g:Nat→Nat} {n:Nat} (h:∀i,i<n→f i=g i):rowA f n=rowA g n:=by
 unfold rowA;rw [ints_congr (f:=f) (g:=g) (a:=0) (b:=0) (fun j hj=>by rw [Nat.zero_add];exact h j hj)]
def updN (f:Nat→Nat) (i v:Nat):Nat→Nat:=fun j=>if j=i then v else f j
theorem updN_same (f:Nat→Nat) (i v:Nat):updN f i v i=v:=if_pos rfl
theorem updN_other (f:Nat→Nat) (i j v:Nat) (h:j≠i):updN f i v j=f j:=if_neg h
theorem rowA_set (f:Nat→Nat) (n i v:Nat):(rowA f n).set! i (.int .i64 (v:Int))=rowA (updN f i v) n:=by
 apply Array.ext_getElem?
 intro j
 by_cases hj:j<n
 ·rw [rowA_get _ _ _ hj,Array.set!_eq_setIfInBounds,Array.getElem?_setIfInBounds]
  by_cases e:i=j
  ·subst e;rw [if_pos rfl,rowA_size,if_pos hj,updN_same]
  ·rw [if_neg e,rowA_get _ _ _ hj,updN_other _ _ _ _ (fun h=>e h.symm)]
 ·rw [Array.getElem?_eq_none (by simp [rowA_size];omega),Array.getElem?_eq_none (by rw [rowA_size];omega)]
def over (f:Nat→Nat) (o:Nat) (v:Nat→Nat) (a k:Nat):Nat→Nat:=fun l=>if o≤l∧l<o+k then v (a+(l - o)) else f l
theorem over_in (f:Nat→Nat) (o:Nat) (v:Nat→Nat) (a k j:Nat) (h:j<k):over f o v a k (o+j)=v (a+j):=by
 unfold over;rw [if_pos (by omega),show o+j - o=j by omega]
theorem over_out (f:Nat→Nat) (o:Nat) (v:Nat→Nat) (a k l:Nat) (h:l<o∨o+k≤l):over f o v a k l=f l:=by
 unfold over;rw [if_neg (by omega)]
def IsT (w:World) (g t:Nat) (f:Nat→Nat) (n:Nat):Prop:=w.heap[g]?=some (.cells (rowA f n) t (0,0))
section
variable {w w':World} {g t n:Nat} {f:Nat→Nat}
theorem IsT.lt (h:IsT w g t f n):g<w.heap.size:=lt_of_block h
theorem IsT.cell (h:IsT w g t f n) (i:Nat) (hi:i<n):w.cell? ⟨g,i,none⟩=some (.int .i64 ((f i:Nat):Int)):=by
 rw [cell_of_row w g i _ _ _ h];exact rowA_get f n i hi
theorem IsT.free (h:IsT w g t f n) (i:Nat):w.frozen? ⟨g,i,none⟩=false:=frozen_of_row w g i _ _ h
theorem IsT.put (h:IsT w g t f n) (i v:Nat):IsT (w.setCell ⟨g,i,none⟩ (.int .i64 (v:Int))) g t (updN f i v) n:=by
 have h2:=heap_setCell_same w g i _ _ (.int .i64 (v:Int)) h
 unfold IsT
 rw [←rowA_set]
 exact h2
theorem IsT.same (h:IsT w g t f n) (hb:w'.heap[g]?=w.heap[g]?):IsT w' g t f n:=hb.trans h
theorem IsT.below (h:IsT w g t f n) (hb:Below w.heap.size w w'):IsT w' g t f n:=h.same (hb.block g h.lt)
theorem IsT.only {k:Nat} (h:IsT w g t f n) (hk:Only k w w') (hg:g≠k):IsT w' g t f n:=h.same (hk.block g h.lt hg)
theorem IsT.ext (h:IsT w g t f n) {f2:Nat→Nat} (hf:∀i,i<n→f i=f2 i):IsT w g t f2 n:=by
 unfold IsT at h ⊢
 rw [h,rowA_ext hf]
theorem IsT.there (h:IsT w g t f n) (o k:Nat) (hk:o+k≤n):w.there g o k:=fun j hj=>
 ⟨by rw [h.cell (o+j) (by omega)];rfl,h.free _⟩
theorem IsT.range (h:IsT w g t f n) (o k:Nat) (hk:o+k≤n):w.rangeAt g o (ints f o k):=fun j v hv=>by
 have hj:j<k:=by
  have:=(List.getElem?_eq_some_iff.1 hv).1
  rwa [ints_len] at this
 rw [h.cell (o+j) (by omega),←ints_get f o k j hj];exact hv
theorem IsT.segs {v:Nat→Nat} (k:Nat):∀(o a:Nat) (f:Nat→Nat) (w:World),IsT w g t f n→IsT (w.setCells g o (ints v a k)) g t (over f o v a k) n:=by
 induction k with
 | zero=>
  intro o a f w h
  refine IsT.ext (f:=f) h fun i _=>?_
  rw [over_out _ _ _ _ _ _ (by omega)]
 | succ k ih=>
  intro o a f w h
  rw [ints_cons,World.setCells]
  refine(ih (o+1) (a+1) _ _ (h.put o (v a))).ext fun i _=>?_
  by_cases e:i=o
  ·subst e
   rw [over_out _ _ _ _ _ _ (by omega),updN_same]
   have:=over_in f i v a (k+1) 0 (by omega)
   exact this.symm
  ·by_cases hin:o≤i∧i<o+(k+1)
   ·obtain⟨j,rfl⟩:∃j,i=o+1+j:=⟨i - (o+1),by omega⟩
    rw [over_in _ _ _ _ _ _ (by omega),show o+1+j=o+(1+j) by omega,over_in _ _ _ _ _ _ (by omega)]
    congr 1;omega
   ·rw [over_out _ _ _ _ _ _ (by omega),over_out _ _ _ _ _ _ (by omega),updN_other _ _ _ _ e]
theorem only_segs (w:World) (g o:Nat) (vs:List Value):Only g w (w.setCells g o vs):=by
 have hk:=World.keptBut_setCells g (may:=fun _=>True) vs o w (fun _ _=>trivial)
 induction vs generalizing o w with
 | nil=>exact Only.refl g w
 | cons v r ih=>exact(Only.setCell g o v w).trans (ih (w.setCell ⟨g,o,none⟩ v) (o+1) (World.keptBut_setCells g (may:=fun _=>True) r (o+1) _ (fun _ _=>trivial)))
end
def pgN (v:Nat):Bool:=decide (v=0) || (decide (2≤v) && decide (v<512))
def Ok (f:Nat→Nat):Prop:=∀l,pgN (f l)=true
theorem Ok.lt {f:Nat→Nat} (h:Ok f) (l:Nat):f l<512:=by
 have:=h l
 simp [pgN] at this;omega
theorem Ok.upd {f:Nat→Nat} (h:Ok f) (i:Nat) {v:Nat} (hv:pgN v=true):Ok (updN f i v):=fun l=>by
 unfold updN;split
 ·exact hv
 ·exact h l
theorem Ok.over {f v:Nat→Nat} (h:Ok f) (o a k:Nat) (hv:∀j,j<k→pgN (v (a+j))=true):Ok (over f o v a k):=fun l=>by
 unfold Go.Proofs.YtmbecjlioogbhaaGreatDoor.Tb.over;split
 ·exact hv _ (by omega)
 ·exact h l
def pgI (x:Int):Bool:=decide (2≤x) && decide (x<512)
theorem pgI_nat {v:Nat} (h:pgI (v:Int)=true):pgN v=true:=by
 simp only [pgI,Bool.and_eq_true,decide_eq_true_eq] at h
 simp [pgN];omega
structure Tab (w:World) (g:Nat) (f:Nat→Nat):Prop where
 row:IsT w g 187 f 512
 ok:Ok f
section
variable {w w':World} {g:Nat} {f:Nat→Nat}
theorem Tab.lt (h:Tab w g f):g<w.heap.size:=h.row.lt
theorem Tab.same (h:Tab w g f) (hb:w'.heap[g]?=w.heap[g]?):Tab w' g f:=⟨h.row.same hb,h.ok⟩
theorem Tab.below (h:Tab w g f) (hb:Below w.heap.size w w'):Tab w' g f:=⟨h.row.below hb,h.ok⟩
theorem Tab.only {k:Nat} (h:Tab w g f) (hk:Only k w w') (hg:g≠k):Tab w' g f:=⟨h.row.only hk hg,h.ok⟩
theorem Tab.drew (h:Tab w g f):Tab w.drew g f:=h.same rfl
end
def getI (f:Nat→Nat) (x:Int):Nat:=if 0≤x∧x<512 then f x.toNat else 0
theorem getI_nat (f:Nat→Nat) {i:Nat} (h:i<512):getI f (i:Int)=f i:=by unfold getI;rw [if_pos (by omega),Int.toNat_natCast]
theorem getI_out (f:Nat→Nat) {x:Int} (h:¬ (0≤x∧x<512)):getI f x=0:=if_neg h
def free (f:Nat→Nat):Nat→Bool:=fun l=>f l == 0
def told (f:Nat→Nat):Nat→Bool:=fun l=>!(f l == 0)
end Go.Proofs.YtmbecjlioogbhaaGreatDoor.Tb
end
section
set_option maxRecDepth 20000
namespace Go.Proofs.YtmbecjlioogbhaaGreatDoor.Tb
open Go.Proofs.YtmbecjlioogbhaaGreatDoor.Bi
open Go.RowKit
theorem info187:(Tryz.prog.info? 187).map (fun i=>(i.zero,i.size))=some (some (.agg (rowA (fun _=>0) 512)),512):=by kernel_rfl
theorem info184:(Tryz.prog.info? 184).map (fun i=>(i.zero,i.size))=some (some (.agg (rowA (fun _=>0) 128)),128):=by kernel_rfl
theorem ok0:Ok fun _=>0:=fun _=>rfl
theorem new_any (w:World):Calls Tryz.prog 75 #[] w fun e w'=>e = .returned (.pointer (some ⟨w.heap.size,0,none⟩))∧Tab w' w.heap.size (fun _=>0)∧Below w.heap.size w w':=by
 obtain⟨hz,hi⟩:=zero_of_info (P:=Tryz.prog) info187
 have HN:Hid (Tab (w.alloc (.cells (rowA (fun _=>0) 512) 187)) w.heap.size fun _=>0):=Lib.hid ⟨heap_alloc_new w _,ok0⟩
 have HB:Hid (Below w.heap.size w (w.alloc (.cells (rowA (fun _=>0) 512) 187))):=Lib.hid ((Below.refl _ _).alloc (Nat.le_refl _) _)
 generalize rowA (fun _=>0) 512=Z at *
 clear hi
 go_enter Tryz.func75,Tryz.ntmps75
 go_wp2_with fail
 go_ret
 exact⟨rfl,HN.out,HB.out⟩
theorem reach_tab (g:Nat) (x:Int) (w:World):Calls Tryz.prog 130 #[.pointer (some ⟨g,0,none⟩),.int .i64 x] w fun e w'=>e = .returned (.bool (decide (0≤x) && decide (x<512)))∧w=w':=by
 by_cases h:0≤x
 ·have hd:decide (0≤x)=true:=decide_eq_true h
  go_enter Tryz.func130,Tryz.ntmps130
  go_wp2_with fail
  go_ret
  exact⟨by simp [hd],rfl⟩
 ·have hd:decide (0≤x)=false:=decide_eq_false h
  go_enter Tryz.func130,Tryz.ntmps130
  go_wp2_with fail
  go_ret
  exact⟨by simp [hd],rfl⟩
theorem leaf_tab (g:Nat) (x:Int) (w:World):Calls Tryz.prog 175 #[.pointer (some ⟨g,0,none⟩),.int .i64 x] w fun e w'=>e = .returned (.bool (decide (0≤x) && decide (x<4)))∧w=w':=by
 by_cases h:0≤x
 ·have hd:decide (0≤x)=true:=decide_eq_true h
  go_enter Tryz.func175,Tryz.ntmps175
  go_wp2_with fail
  go_ret
  exact⟨by simp [hd],rfl⟩
 ·have hd:decide (0≤x)=false:=decide_eq_false h
  go_enter Tryz.func175,Tryz.ntmps175
  go_wp2_with fail
  go_ret
  exact⟨by simp [hd],rfl⟩
theorem isPage_any (x:Int) (w:World):Calls Tryz.prog 174 #[.int .i64 x] w fun e w'=>e = .returned (.bool (pgI x))∧w=w':=by
 unfold pgI
 by_cases h:2≤x
 ·have hd:decide (2≤x)=true:=decide_eq_true h
  go_enter Tryz.func174,Tryz.ntmps174
  go_wp2_with fail
  go_ret
  exact⟨by simp [hd],rfl⟩
 ·have hd:decide (2≤x)=false:=decide_eq_false h
  go_enter Tryz.func174,Tryz.ntmps174
  go_wp2_with fail
  go_ret
  exact⟨by simp [hd],rfl⟩
def mayI (x:Int):Bool:=(x == 0) || pgI x
theorem may_any7 (x:Int) (w:World):Calls Tryz.prog 181 #[.int .i64 x] w fun e w'=>e = .returned (.bool (mayI x))∧w=w':=by
 unfold mayI
 by_cases h:x=0
 ·subst h
  go_enter Tryz.func181,Tryz.ntmps181
  go_wp2_with fail
  go_ret
  exact⟨rfl,rfl⟩
 ·have hd:(x == 0)=false:=beq_eq_false_iff_ne.2 h
  go_enter Tryz.func181,Tryz.ntmps181
  go_wp2_with (go_at_call 174;refine(isPage_any x _).mono ?_;rintro e w7 ⟨rfl,rfl⟩)
  go_ret
  exact⟨by rw [hd,Bool.false_or];rfl,rfl⟩
theorem tdiv_nat (i:Nat):Int.tdiv (i:Int) 128=((i / 128:Nat):Int):=by rw [Int.tdiv_eq_ediv_of_nonneg (by omega)];omega
theorem tmod_nat (i:Nat):Int.tmod (i:Int) 128=((i % 128:Nat):Int):=by rw [Int.tmod_eq_emod_of_nonneg (by omega)];omega
theorem told_int (f:Nat→Nat) (i:Nat):told f i = !(((f i:Nat):Int) == 0):=by
 unfold told
 rcases f i with _ | n
 ·rfl
 ·rfl
set_option maxHeartbeats 800000 in
theorem get_in {w:World} {g:Nat} {f:Nat→Nat} (h:Tab w g f) (i:Nat) (hi:i<512):Calls Tryz.prog 77 #[.pointer (some ⟨g,0,none⟩),.int .i64 (i:Int)] w fun e w'=>e = .returned (.tuple #[.int .i64 ((f i:Nat):Int),.bool (told f i)])∧w=w':=by
 have hd1:decide ((0:Int)≤(i:Int))=true:=decide_eq_true (by omega)
 have hd2:decide ((i:Int)<512)=true:=decide_eq_true (by omega)
 have hc:=h.row.cell i hi
 have hT:=tdiv_nat i
 have hM:=tmod_nat i
 have hq:i / 128<4:=by omega
 have hr:i % 128<128:=Nat.mod_lt _ (by omega)
 have he:i=i / 128*128+i % 128:=by omega
 rw [he] at hc
 have HE:=Lib.hid he
 have HF:Hid (f (i / 128*128+i % 128)=f i):=Lib.hid (by rw [←he])
 have HI:=Lib.hid hi
 clear he h hi
 generalize i / 128=q at *
 generalize i % 128=r at *
 rw [HF.out] at hc
 have HT:Hid (told f i = !(((f i:Nat):Int) == 0)):=Lib.hid (told_int f i)
 rw [HT.out]
 generalize f i=v at *
 have HR:Hid (∀w,Calls Tryz.prog 130 #[.pointer (some ⟨g,0,none⟩),.int .i64 (i:Int)] w fun e w'=>e = .returned (.bool true)∧w=w'):=Lib.hid fun w=>by
  have:=reach_tab g (i:Int) w
  rwa [hd1,hd2] at this
 clear hd1 hd2
 go_enter Tryz.func77,Tryz.ntmps77
 go_wp2_with (go_at_call 130;refine(HR.out _).mono ?_;rintro e w7 ⟨rfl,rfl⟩)
 go_ret2
 exact⟨rfl,rfl⟩
theorem get_out (g:Nat) (x:Int) (w:World) (h:¬ (0≤x∧x<512)):Calls Tryz.prog 77 #[.pointer (some ⟨g,0,none⟩),.int .i64 x] w fun e w'=>e = .returned (.tuple #[.int .i64 0,.bool false])∧w=w':=by
 have HR:Hid (∀w,Calls Tryz.prog 130 #[.pointer (some ⟨g,0,none⟩),.int .i64 x] w fun e w'=>e = .returned (.bool false)∧w=w'):=Lib.hid fun w=>by
  have:=reach_tab g x w
  have e:(decide (0≤x) && decide (x<512))=false:=by rw [←Bool.decide_and];exact decide_eq_false h
  rwa [e] at this
 clear h
 go_enter Tryz.func77,Tryz.ntmps77
 go_wp2_with (go_at_call 130;refine(HR.out _).mono ?_;rintro e w7 ⟨rfl,rfl⟩)
 go_ret2
 exact⟨rfl,rfl⟩
theorem get_any {w:World} {g:Nat} {f:Nat→Nat} (h:Tab w g f) (x:Int):Calls Tryz.prog 77 #[.pointer (some ⟨g,0,none⟩),.int .i64 x] w fun e w'=>e = .returned (.tuple #[.int .i64 ((getI f x:Nat):Int),.bool (!(getI f x == 0))])∧w=w':=by
 by_cases hx:0≤x∧x<512
 ·obtain⟨i,rfl⟩:=Int.eq_ofNat_of_zero_le hx.1
  rw [getI_nat f (by omega)]
  exact get_in h i (by omega)
 ·rw [getI_out f hx]
  exact get_out g x w hx
set_option maxHeartbeats 800000 in
theorem set_in {w:World} {g:Nat} {f:Nat→Nat} (h:Tab w g f) (i v:Nat) (hi:i<512) (hv:pgI (v:Int)=true):Calls Tryz.prog 139 #[.pointer (some ⟨g,0,none⟩),.int .i64 (i:Int),.int .i64 (v:Int)] w fun e w'=>e = .returned (.int .i64 0)∧Tab w' g (updN f i v)∧Only g w w':=by
 have hc:=h.row.cell i hi
 have hf:=h.row.free i
 have HR:Hid (∀w,Calls Tryz.prog 130 #[.pointer (some ⟨g,0,none⟩),.int .i64 (i:Int)] w fun e w'=>e = .returned (.bool true)∧w=w'):=Lib.hid fun w=>by
  have:=reach_tab g (i:Int) w
  rwa [decide_eq_true (show (0:Int)≤(i:Int) by omega),decide_eq_true (show (i:Int)<512 by omega)] at this
 have HV:Hid (∀w,Calls Tryz.prog 174 #[.int .i64 (v:Int)] w fun e w'=>e = .returned (.bool true)∧w=w'):=Lib.hid fun w=>by
  have:=isPage_any (v:Int) w
  rwa [hv] at this
 have HS:Hid (Tab (w.setCell ⟨g,i,none⟩ (.int .i64 (v:Int))) g (updN f i v)):=Lib.hid ⟨h.row.put i v,h.ok.upd i (pgI_nat hv)⟩
 have HO:Hid (Only g w (w.setCell ⟨g,i,none⟩ (.int .i64 (v:Int)))):=Lib.hid (Only.setCell g i _ w)
 have hT:=tdiv_nat i
 have hM:=tmod_nat i
 have hq:i / 128<4:=by omega
 have hr:i % 128<128:=Nat.mod_lt _ (by omega)
 have HE:Hid (i / 128*128+i % 128=i):=Lib.hid (by omega)
 rw [←HE.out] at hc hf HS HO
 have HI:=Lib.hid hi
 clear h hi hv
 generalize i / 128=q at *
 generalize i % 128=r at *
 generalize f (q*128+r)=u at *
 generalize hK:updN f (q*128+r) v=K at *
 go_enter Tryz.func139,Tryz.ntmps139
 go_wp2_with (first | (go_at_call 130;refine(HR.out _).mono ?_;rintro e w7 ⟨rfl,rfl⟩) | (go_at_call 174;refine(HV.out _).mono ?_;rintro e w7 ⟨rfl,rfl⟩))
 go_ret
 refine⟨rfl,?_,HO.out⟩
 rw [←HE.out,hK];exact HS.out
set_option maxHeartbeats 800000 in
theorem drop_in {w:World} {g:Nat} {f:Nat→Nat} (h:Tab w g f) (i:Nat) (hi:i<512) (hv:f i≠0):Calls Tryz.prog 92 #[.pointer (some ⟨g,0,none⟩),.int .i64 (i:Int)] w fun e w'=>e = .returned (.bool true)∧Tab w' g (updN f i 0)∧Only g w w':=by
 have hc:=h.row.cell i hi
 have hf:=h.row.free i
 have HG:Hid (∀w',w'=w→Calls Tryz.prog 77 #[.pointer (some ⟨g,0,none⟩),.int .i64 (i:Int)] w' fun e w''=>e = .returned (.tuple #[.int .i64 ((f i:Nat):Int),.bool true])∧w'=w''):=Lib.hid fun w' e=>by
  subst e
  have:=get_in h i hi
  have e:told f i=true:=by unfold told;simpa using hv
  rwa [e] at this
 have HS:Hid (Tab (w.setCell ⟨g,i,none⟩ (.int .i64 0)) g (updN f i 0)):=Lib.hid ⟨h.row.put i 0,h.ok.upd i rfl⟩
 have HO:Hid (Only g w (w.setCell ⟨g,i,none⟩ (.int .i64 0))):=Lib.hid (Only.setCell g i _ w)
 have hT:=tdiv_nat i
 have hM:=tmod_nat i
 have hq:i / 128<4:=by omega
 have hr:i % 128<128:=Nat.mod_lt _ (by omega)
 have HE:Hid (i / 128*128+i % 128=i):=Lib.hid (by omega)
 have hfi:f (i / 128*128+i % 128)=f i:=by rw [HE.out]
 rw [←HE.out] at hc hf HS HO
 rw [hfi] at hc
 have HI:=Lib.hid hi
 clear h hi hv hfi
 generalize i / 128=q at *
 generalize i % 128=r at *
 generalize f i=u at *
 generalize hK:updN f (q*128+r) 0=K at *
 go_enter Tryz.func92,Tryz.ntmps92
 go_wp2_with (go_at_call 77;refine(HG.out _ rfl).mono ?_;rintro e w7 ⟨rfl,rfl⟩)
 go_ret
 refine⟨rfl,?_,HO.out⟩
 rw [←HE.out,hK];exact HS.out
def dropT (f:Nat→Nat) (x:Int):Nat→Nat:=if 0≤x∧x<512 then updN f x.toNat 0 else f
theorem updN_id (f:Nat→Nat) (i v:Nat) (h:f i=v):updN f i v=f:=by
 funext j;unfold updN;split
 ·subst_vars;rfl
 ·rfl
theorem drop_tab {w:World} {g:Nat} {f:Nat→Nat} (h:Tab w g f) (x:Int):Calls Tryz.prog 92 #[.pointer (some ⟨g,0,none⟩),.int .i64 x] w fun e w'=>e = .returned (.bool (!(getI f x == 0)))∧Tab w' g (dropT f x)∧Only g w w':=by
 by_cases hv:getI f x=0
 ·have HG:Hid (∀w',w'=w→Calls Tryz.prog 77 #[.pointer (some ⟨g,0,none⟩),.int .i64 x] w' fun e w''=>e = .returned (.tuple #[.int .i64 0,.bool false])∧w'=w''):=Lib.hid fun w' e=>by
   subst e
   have:=get_any h x
   rwa [hv] at this
  have e:dropT f x=f:=by
   unfold dropT
   split
   ·rename_i hx
    unfold getI at hv
    rw [if_pos hx] at hv
    exact updN_id f _ 0 hv
   ·rfl
  rw [hv,e]
  have H:=Lib.hid h
  clear h hv e
  go_enter Tryz.func92,Tryz.ntmps92
  go_wp2_with (go_at_call 77;refine(HG.out _ rfl).mono ?_;rintro e w7 ⟨rfl,rfl⟩)
  go_ret
  exact⟨rfl,H.out,Only.refl _ _⟩
 ·by_cases hx:0≤x∧x<512
  ·obtain⟨i,rfl⟩:=Int.eq_ofNat_of_zero_le hx.1
   have e:(!(getI f (i:Int) == 0))=true:=by simpa using hv
   rw [e]
   rw [getI_nat f (by omega)] at hv
   unfold dropT
   rw [if_pos hx,Int.toNat_natCast]
   exact drop_in h i (by omega) hv
  ·exact absurd (getI_out f hx) hv
end Go.Proofs.YtmbecjlioogbhaaGreatDoor.Tb
end
section
set_option maxRecDepth 20000
namespace Go.Proofs.YtmbecjlioogbhaaGreatDoor.Tb
open Go.Proofs.YtmbecjlioogbhaaGreatDoor.Bi
open Go.RowKit Go.Shelf
attribute [local go_sem] Oper.semAt_some
theorem size185:(Tryz.prog.info? 185).map (·.size)=some 512:=by kernel_rfl
theorem size184:(Tryz.prog.info? 184).map (·.size)=some 128:=by kernel_rfl
set_option maxHeartbeats 800000 in
theorem fold_list (o:Nat):∀(l:List Value) (s:Nat) (C:Array Value),o+s+l.length≤C.size→∀k,((l.zipIdx s).foldl (fun cs (x:Value × Nat)=>cs.setIfInBounds (o+x.2) x.1) C)[k]?=if o+s≤k∧k<o+s+l.length then l[k - o - s]? else C[k]?
 | [],s,C,_,k=>by
  simp only [List.length_nil];rw [if_neg (by omega)];first | rfl | done
 | v :: r,s,C,h,k=>by
  rw [List.length_cons] at h
  rw [List.zipIdx_cons,List.foldl_cons,fold_list o r (s+1) _ (by rw [Array.size_setIfInBounds];omega) k]
  by_cases e:k=o+s
  ·subst e
   rw [if_neg (by omega),if_pos (by simp),Array.getElem?_setIfInBounds,if_pos rfl,if_pos (by omega)]
   rw [show o+s - o - s=0 by omega];rfl
  ·by_cases hin:o+s≤k∧k<o+s+(v :: r).length
   ·rw [List.length_cons] at hin
    rw [if_pos (by omega),if_pos (by rw [List.length_cons];omega),show k - o - s=(k - o - (s+1))+1 by omega]
    rfl
   ·rw [if_neg hin]
    rw [List.length_cons] at hin
    rw [if_neg (by omega),Array.getElem?_setIfInBounds,if_neg (by omega)]
theorem fold_all (Z C:Array Value) (h:C.size=Z.size):Z.zipIdx.foldl (fun cs (x:Value × Nat)=>cs.setIfInBounds (0+x.2) x.1) C=Z:=by
 apply Array.ext_getElem?
 intro k
 have:=fold_list 0 Z.toList 0 C (by simp [h]) k
 rw [←Array.foldl_toList,Array.toList_zipIdx]
 rw [this]
 by_cases hk:k<Z.size
 ·rw [if_pos (by simp;exact hk)];simp
 ·rw [if_neg (by simp;omega),Array.getElem?_eq_none (by omega),Array.getElem?_eq_none (by omega)]
set_option maxRecDepth 100000 in
theorem copy_any {w:World} {g:Nat} {f:Nat→Nat} (h:Tab w g f) :
  Calls Tryz.prog 129 #[.pointer (some ⟨g,0,none⟩)] w fun e w'=>e = .returned (.pointer (some ⟨w.heap.size,0,none⟩))∧Tab w' w.heap.size f∧Below w.heap.size w w':=by
 have HR:Hid (w.heap[g]?=some (.cells (rowA f 512) 187 (0,0))):=Lib.hid h.row
 have HN:Hid (Tab (w.alloc (.cells (rowA f 512) 187)) w.heap.size f):=Lib.hid ⟨heap_alloc_new w _,h.ok⟩
 have HB:Hid (Below w.heap.size w (w.alloc (.cells (rowA f 512) 187))):=Lib.hid ((Below.refl _ _).alloc (Nat.le_refl _) _)
 have HS:Hid ((Tryz.prog.info? 185).map (·.size)=some (rowA f 512).size):=Lib.hid (by rw [size185,rowA_size])
 obtain⟨hz,-⟩:=zero_of_info (P:=Tryz.prog) info187
 have hs1:(rowA f 512).size=512:=rowA_size _ _
 have hs0:(rowA (fun _=>0) 512).size=512:=rowA_size _ _
 have hfo:Array.foldl (fun (cs:Array Value) (x:Value × Nat)=>cs.setIfInBounds x.snd x.fst) (rowA (fun _=>0) 512) (rowA f 512).zipIdx 0 (rowA f 512).size=rowA f 512:=by
  have h:=fold_all (rowA f 512) (rowA (fun _=>0) 512) (by rw [hs0,hs1])
  simp only [Nat.zero_add,Array.size_zipIdx] at h
  exact h
 rw [hs1] at hfo
 clear h
 generalize rowA (fun _=>0) 512=Z0 at *
 generalize rowA f 512=Z at *
 go_enter Tryz.func129,Tryz.ntmps129
 go_wp2_with (refine wpList_load_row rfl 185 (.tmp 7) rfl g rfl 187 Z (0,0) _ HR.out Tryz.underlying185 rfl HS.out ?_)
 go_ret
 exact⟨rfl,HN.out,HB.out⟩
structure Told (W w':World) (Bs g:Nat) (f:Nat→Nat):Prop where
 l1:W.heap.size≤Bs
 l2:W.heap.size≤g
 ne:Bs≠g
 h1:Bs<w'.heap.size
 cell:w'.cell? ⟨Bs,0,none⟩=some (.pointer (some ⟨g,0,none⟩))
 tab:Tab w' g f
set_option maxHeartbeats 800000 in
theorem all_any {w:World} {g:Nat} {f:Nat→Nat} (h:Tab w g f) :
  Calls Tryz.prog 93 #[.pointer (some ⟨g,0,none⟩)] w fun e w'=>(∃Bs g',e = .returned (.func (.func 151) #[] #[.pointer (some ⟨Bs,0,none⟩)])∧Told w w' Bs g' f)∧Below w.heap.size w w':=by
 have HT:=Lib.hid (copy_any h)
 clear h
 go_enter Tryz.func93,Tryz.ntmps93
 go_wp2_with (go_at_call 129;refine HT.out.mono ?_;rintro e w7 ⟨rfl,hS,hb⟩)
 go_ret
 have hb2:=(Below.refl w7.heap.size w7).alloc (Nat.le_refl _) (.cells #[.pointer (some ⟨w.heap.size,0,none⟩)] 95)
 exact⟨⟨w7.heap.size,w.heap.size,rfl,hb.size,Nat.le_refl _,by have:=hS.lt;omega,by simp,World.cell?_alloc_new w7 _ _ 0,hS.below hb2⟩,hb.alloc hb.size _⟩
def Two (x y:Nat) (A B:World):Prop:=B.heap[x]?=A.heap[x]?∧B.heap[y]?=A.heap[y]?
theorem Two.refl (x y:Nat) (A:World):Two x y A A:=⟨rfl,rfl⟩
theorem Two.trans {x y:Nat} {A B C:World} (h:Two x y A B) (k:Two x y B C):Two x y A C:=⟨k.1.trans h.1,k.2.trans h.2⟩
theorem Two.of_below {n₀ x y:Nat} {A B:World} (h:Below n₀ A B) (hx:x<n₀) (hy:y<n₀):Two x y A B:=⟨h.block x hx,h.block y hy⟩
theorem Two.fst {x y o:Nat} {A B:World} (h:Two x y A B):B.cell? ⟨x,o,none⟩=A.cell? ⟨x,o,none⟩:=World.cell?_of_block (w:=A) h.1
theorem Two.tab {x g:Nat} {f:Nat→Nat} {A B:World} (h:Two x g A B) (hS:Tab A g f):Tab B g f:=hS.same h.2
theorem Two.put {w:World} {x y:Nat} (hx:x<w.heap.size) (hy:y<w.heap.size) (W:World) (l:Nat) (o o':Obj) (hl:w.heap.size≤l) (h:W.heap[l]?=some o) (h1:o.isCells=false) (h2:o.isWalk=false):Two x y W (W.putObj l o'):=
 Two.of_below (belowK_b (w:=w) (Nat.le_refl _) W l o o' hl h h1 h2) hx hy
theorem Two.setCell {x y g i:Nat} (hx:x≠g) (hy:y≠g) (v:Value) (w:World):Two x y w (w.setCell ⟨g,i,none⟩ v):=⟨Below.heap_setCell w _ v x hx,Below.heap_setCell w _ v y hy⟩
def mems (f:Nat→Bool) (s:Nat):List Nat:=(List.range s).filter f
theorem mems_hit {f:Nat→Bool} {j:Nat} (h:f j=true):mems f (j+1)=mems f j++[j]:=by
 unfold mems
 rw [List.range_succ,List.filter_append];simp [h]
theorem mems_miss {f:Nat→Bool} {j:Nat} (h:f j=false):mems f (j+1)=mems f j:=by
 unfold mems
 rw [List.range_succ,List.filter_append];simp [h]
theorem mems_len (f:Nat→Bool) (s:Nat):(mems f s).length≤s:=by
 unfold mems
 exact Nat.le_trans (List.length_filter_le _ _) (by simp)
theorem mems_cnt (f:Nat→Bool) (s:Nat):(mems f s).length=cnt f s:=by
 induction s with
 | zero=>rfl
 | succ s ih=>
  cases h:f s with
  | true=>rw [mems_hit h,List.length_append,ih];show _=cnt f s+(f s).toNat;rw [h];rfl
  | false=>rw [mems_miss h,ih];show _=cnt f s+(f s).toNat;rw [h];rfl
def tell (f:Nat→Nat) (x:Nat):Array Value:=#[.int .i64 (x:Int),.int .i64 ((f x:Nat):Int)]
set_option maxRecDepth 100000 in
set_option maxHeartbeats 2000000 in
theorem all1_in (n:Nat) (hn:1≤n) (l Bs g:Nat) (f:Nat→Nat) (J Jx:List Nat→World→Prop)
  (hY:∀(pre:List Nat) (x:Nat) W,J pre W→pre.length<513→YieldAt Fence.wide (n - 1) Tryz.prog l (tell f x) W fun e W'=>
    (e = .returned (.bool true)∧J (pre++[x]) W'∧Two Bs g W W')∨(e = .returned (.bool false)∧Jx (pre++[x]) W'))
  (W:World) (hBs:W.cell? ⟨Bs,0,none⟩=some (.pointer (some ⟨g,0,none⟩))) (hS:Tab W g f) (h0:J [] W) :
  CallsIn Fence.wide n Tryz.prog 151 #[.func (.yield l) #[] #[],.pointer (some ⟨Bs,0,none⟩)] W fun e W'=>(∃v,e = .returned v) ∧
   ((∃ys,ys=mems (told f) 512∧J ys W')∨(∃pre,(∃j,j≤512∧pre=mems (told f) j)∧Jx pre W')):=by
 have HS:=Lib.hid hS
 have HY:=Lib.hid hY
 have HBs:=Lib.hid hBs
 clear hS hY hBs
 refine callsIn_of_wp Tryz.func151 rfl trivial ?_ rfl
 simp only [Tryz.ntmps151,List.size_toArray,List.length_cons,List.length_nil,Nat.reduceAdd,Nat.reduceSub,Array.replicate_succ,Array.replicate_zero,List.push_toArray,List.append_toArray,List.nil_append,List.cons_append]
 gi_wp2
 gi_loopw [6] (fun i wr=>∃s:Nat,s≤512∧i = .int .i64 (s:Int)∧J (mems (told f) s) wr∧Two Bs g W wr)
  (fun i _=>512 - (RowKit.intOf i).toNat)
 case atStart=>exact⟨0,Nat.zero_le _,rfl,h0,Two.refl _ _ _⟩
 case round=>
  obtain⟨s,hs,rfl,hJs,hnx⟩:=hrel
  have HNX:=Lib.hid hnx
  have HJ:=Lib.hid hJs
  clear hnx hJs
  by_cases hlt:s<512
  ·have hd:decide ((s:Int)<512)=true:=decide_eq_true (by omega)
   have hb:wr.cell? ⟨Bs,0,none⟩=some (.pointer (some ⟨g,0,none⟩)):=HNX.out.fst.trans HBs.out
   have HG:=Lib.hid (get_in (HNX.out.tab HS.out) s hlt)
   have hz:(s:Int)≤512:=by omega
   have HL:=Lib.hid hlt
   have HSS:=Lib.hid hs
   clear hlt hs
   cases ht:told f s with
   | false=>
    have HM:Hid (mems (told f) (s+1)=mems (told f) s):=Lib.hid (mems_miss ht)
    rw [ht] at HG
    clear ht
    gi_wp2_with (refine⟨trivial,?_⟩;gi_at_call 77;refine(callsIn_wide.2 HG.out).mono ?_;rintro e w' ⟨rfl,rfl⟩)
    refine⟨fun _ h=>(by cases h),?_⟩
    gi_wp2
    go_roundw
    case rel=>exact⟨s+1,by have:=HL.out;omega,by go_num,by rw [HM.out];exact HJ.out,HNX.out⟩
    case measure=>have:=HL.out;simp [RowKit.intOf];omega
   | true=>
    have HM:Hid (mems (told f) s++[s]=mems (told f) (s+1)):=Lib.hid (mems_hit ht).symm
    have hy0:=HY.out _ s wr HJ.out (by have:=mems_len (told f) s;have:=HL.out;omega)
    rw [HM.out] at hy0
    unfold tell at hy0
    rw [ht] at HG
    clear ht
    obtain⟨fn,tmps,assign,body,hy,hR⟩:=hy0
    gi_wp2_with (refine⟨trivial,?_⟩;gi_at_call 77;refine(callsIn_wide.2 HG.out).mono ?_;rintro e w' ⟨rfl,rfl⟩)
    refine hR.mono ?_
    rintro e W3 (⟨rfl,hJ3,hk3⟩ | ⟨rfl,hJx3⟩)
    ·have HK3:=Lib.hid (HNX.out.trans hk3)
     clear hk3
     gi_wp2
     go_roundw
     case rel=>exact⟨s+1,by have:=HL.out;omega,by go_num,hJ3,HK3.out⟩
     case measure=>have:=HL.out;simp [RowKit.intOf];omega
    ·gi_wp2
     refine bodyPost_ret (results_none rfl _ _ _) rfl ?_
     exact⟨⟨_,rfl⟩,.inr ⟨_,⟨s+1,by have:=HL.out;omega,rfl⟩,hJx3⟩⟩
  ·have hd:decide ((s:Int)<512)=false:=decide_eq_false (by omega)
   have HE:Hid (s=512):=Lib.hid (by omega)
   clear hlt hs
   gi_wp2
   go_end0
   exact⟨⟨_,rfl⟩,.inl ⟨_,rfl,by have:=HJ.out;rwa [HE.out] at this⟩⟩
theorem all_stops (n:Nat) (hn:1≤n) (Bs g:Nat) (f:Nat→Nat) (w:World) (hB:Bs<w.heap.size) (hc:w.cell? ⟨Bs,0,none⟩=some (.pointer (some ⟨g,0,none⟩))) (hS:Tab w g f) :
  SeqStopsK Fence.wide n Tryz.prog 151 #[.pointer (some ⟨Bs,0,none⟩)] (tell f) (Two Bs g) (fun ys=>ys=mems (told f) 512) (fun pre=>∃j,j≤512∧pre=mems (told f) j) 513 w:=fun l J Jx W hW _ _ hY h0=>
 all1_in n hn l Bs g f J Jx hY W ((hW.cell (p:=⟨Bs,0,none⟩) hB).trans hc) (hS.same (hW.block g hS.lt)) h0
structure Bx (w:World) (g:Nat) (v:Int):Prop where
 cell:w.cell? ⟨g,0,none⟩=some (.int .i64 v)
 fz:w.frozen? ⟨g,0,none⟩=false
theorem Bx.own {g:Nat} (v:List Nat→Int):Own (fun (pre:List Nat) W=>Bx W g (v pre)):=fun _ _ _ _ hs hg hr=>
 ⟨cell_kept hs.cell hg hr,(frozen_kept hs.cell hg hr).trans hs.fz⟩
set_option maxRecDepth 100000 in
set_option maxHeartbeats 2000000 in
theorem len_any {w:World} {g:Nat} {f:Nat→Nat} (h:Tab w g f) :
  Calls Tryz.prog 50 #[.pointer (some ⟨g,0,none⟩)] w fun e w'=>e = .returned (.int .i64 (cnt (told f) 512:Int))∧Below w.heap.size w w':=by
 have HT:Hid (∀w1,Below w.heap.size w w1→Calls Tryz.prog 93 #[.pointer (some ⟨g,0,none⟩)] w1 fun e w'=>(∃Bs g',e = .returned (.func (.func 151) #[] #[.pointer (some ⟨Bs,0,none⟩)])∧Told w1 w' Bs g' f)∧Below w1.heap.size w1 w'):=Lib.hid fun w1 hb=>all_any (h.below hb)
 clear h
 refine(callsIn_wide (n:=5)).1 ?_
 refine callsIn_of_wp_marks Tryz.func50 rfl trivial ?_ rfl
 simp only [Tryz.ntmps50,List.size_toArray,List.length_cons,List.length_nil,Nat.reduceAdd,Nat.reduceSub,Array.replicate_succ,Array.replicate_zero,List.push_toArray,List.append_toArray,List.nil_append,List.cons_append]
 gi_wp2_with (refine⟨trivial,?_⟩;gi_at_call 93;refine(callsIn_wide.2 (HT.out _ ((Below.refl _ _).alloc (Nat.le_refl _) _))).mono ?_;rintro e w7 ⟨⟨Bs,g',rfl,hTo⟩,hb⟩)
 obtain⟨t1,t2,t3,t4,t5,t6⟩:=hTo
 have hbB:Below w.heap.size w w7:=((Below.refl _ _).alloc (Nat.le_refl _) (.cells #[.int .i64 0] 3)).trans (hb.mono (by simp))
 have hbx:Bx w7 w.heap.size 0:=⟨(hb.cell (p:=⟨w.heap.size,0,none⟩) (by simp)).trans (World.cell?_alloc_new w _ _ 0),(World.frozen?_of_block (hb.block w.heap.size (by simp))).trans (free_of_one (heap_alloc_new w _))⟩
 have hsz:w.heap.size<w7.heap.size:=by have:=hb.size;simp at this;omega
 have hg:=t6.lt
 have n1:Bs≠w.heap.size:=by simp at t1;omega
 have n2:g'≠w.heap.size:=by simp at t2;omega
 have HFN:Hid (((mems (told f) 512).length:Int)=(cnt (told f) 512:Int)):=Lib.hid (by rw [mems_cnt])
 refine wpIn_rangeFunc_ownG rfl (by omega) (gf:=151) (lb:=#[.pointer (some ⟨Bs,0,none⟩)]) rfl trivial (enters_of Tryz.func151 (by kernel_rfl) rfl)
  (all_stops 4 (by omega) Bs g' f w7 t4 t5 t6) Two.trans (Two.put t4 hg) (Below.refl _ _) (fun _=>rfl)
  (fun pre W=>Bx W w.heap.size (pre.length:Int)∧Below w.heap.size w W)
  (fun _ _ _=>False)
  (OwnFrom.and (Own.from (Bx.own (fun pre=>(pre.length:Int))) _) (ownFrom_below (by omega) (by omega)))
  (fun c=>ownFrom_pure _ _)
  ⟨hbx,hbB⟩
  (fun x=>{ tmps:=#[.pointer (some ⟨g,0,none⟩),undef,.int .i64 0,.pointer (some ⟨w.heap.size,0,none⟩),.pointer (some ⟨g,0,none⟩),.func (.func 151) #[] #[.pointer (some ⟨Bs,0,none⟩)],.int .i64 (x:Int),.int .i64 ((f x:Nat):Int),undef,undef,undef],defers:=[] }) ?assign ?body ?done ?stop
 case assign=>
  intro l x W K hK
  unfold tell
  gi_wp2
  first
   | exact hK
   | (simp;exact hK)
 case body=>
  rintro l pre x W ⟨hbx2,hB2⟩ hlen
  have hc:=hbx2.cell
  have hf:=hbx2.fz
  have hb1:(pre.length:Int)≤512:=by omega
  have hb0:(0:Int)≤(pre.length:Int):=by omega
  have HTS:Hid (((pre++[x]).length:Int)=(pre.length:Int)+1):=Lib.hid (by rw [List.length_append];simp)
  have HB2:=Lib.hid hB2
  clear hbx2 hB2 hlen
  generalize pre.length=tp at *
  generalize f x=xv at *
  gi_wp2
  refine⟨(KeepsOthers.setCell _ _ _).from _,Two.setCell n1 n2 _ _,⟨?_,?_⟩,HB2.out.setCell (p:=⟨w.heap.size,0,none⟩) (Nat.le_refl _) _⟩
  ·rw [HTS.out];exact World.cell?_setCell_same' _ _ _ (by rw [hc];rfl)
  ·rw [World.frozen?_setCell];exact hf
 case done=>
  rintro D ys W hD rfl ⟨hbx2,hB2⟩ hK
  rw [HFN.out] at hbx2
  have hc:=hbx2.cell
  clear hbx2
  have HB2:=Lib.hid (hB2.trans (belowK_b (w:=w) (Nat.le_refl _) W D _ (.deferred none) (by omega) hK rfl rfl))
  have HK:=Lib.hid hK
  clear hB2 hK
  generalize hN:cnt (told f) 512=N at *
  gi_wp2
  refine⟨by simp,.inl ⟨_,_,rfl,run_takeDeferred HK.out,?_⟩⟩
  refine⟨.int .i64 (N:Int),?_,by rw [hN],HB2.out⟩
  simp [results,Tryz.f50,go_sem]
 case stop=>
  rintro D cd pre W hD _ hf hK
  exact hf.elim
end Go.Proofs.YtmbecjlioogbhaaGreatDoor.Tb
end
section
set_option maxRecDepth 20000
namespace Go.Proofs.YtmbecjlioogbhaaGreatDoor.Tb
open Go.Proofs.YtmbecjlioogbhaaGreatDoor.Bi
open Go.RowKit
def four (v:Nat):List Nat:=[0,0,v / 256,v % 256]
def fours (f:Nat→Nat):Nat→List Nat
 | 0=>[]
 | n+1=>fours f n++four (f n)
theorem fours_len (f:Nat→Nat) (n:Nat):(fours f n).length=4*n:=by
 induction n with
 | zero=>rfl
 | succ n ih=>show (fours f n++four (f n)).length=_;rw [List.length_append,ih];show 4*n+4=_;omega
theorem four_dig {v:Nat} (h:v<512):∀x∈four v,x<256:=by
 intro x hx
 simp [four] at hx
 rcases hx with rfl | rfl | rfl <;> omega
theorem fours_dig {f:Nat→Nat} (h:∀j,f j<512) (n:Nat):∀x∈fours f n,x<256:=by
 induction n with
 | zero=>intro x hx;cases hx
 | succ n ih=>exact dig_append ih (four_dig (h n))
theorem fours_congr {f g:Nat→Nat} {n:Nat} (h:∀j,j<n→f j=g j):fours f n=fours g n:=by
 induction n with
 | zero=>rfl
 | succ n ih=>show fours f n++four (f n)=fours g n++four (g n);rw [ih (fun j hj=>h j (by omega)),h n (by omega)]
def valB (bs:List Nat) (k:Nat):Nat:=bs.getD (4*k) 0*16777216+bs.getD (4*k+1) 0*65536+bs.getD (4*k+2) 0*256+bs.getD (4*k+3) 0
theorem own_cap {w:World} {base E n:Nat} {v:Value} {xs:List Value} (h:w.ownsRow base E 1 v n xs):∃p c,v = .slice p n c∧n≤c∧c≤9223372036854775807:=by
 rcases h.2 with ⟨h0,h1⟩ | ⟨g,cap,cur,e,_,_,hc,hm,_⟩
 ·subst h1;exact⟨none,0,h0,Nat.le_refl _,by omega⟩
 ·exact⟨_,_,e,hc,by unfold maxLen at hm;omega⟩
set_option maxRecDepth 100000 in
set_option maxHeartbeats 1600000 in
theorem lay_any (g o n c:Nat) (f:Nat→Nat) (w:World) (hn:n≤128) (hf:∀j,f j<512) (hcell:∀j,j<n→w.cell? ⟨g,o+j,none⟩=some (.int .i64 ((f j:Nat):Int))) :
  Calls Tryz.prog 176 #[.slice (some ⟨g,o,none⟩) n c] w fun e w'=>(∃p c',e = .returned (.slice p (4*n) c')∧Bys w' p (4*n) (fours f n)∧4*n≤c'∧c'≤9223372036854775807)∧Below w.heap.size w w':=by
 obtain⟨i0,hi,hz0,hz1,hz2⟩:=info_parts Tryz.info5
 have HN:=Lib.hid hn
 have HF:=Lib.hid hf
 have HC:=Lib.hid hcell
 obtain⟨C0,hC0⟩:∃C0,C0=madeCells #[Value.int .u8 0] (4*n):=⟨_,rfl⟩
 have hmk:∀w:World,(Instr.makeSlice 71 (.int .i64 (0:Int)) (.int .i64 ((n:Int)*4))).run Tryz.prog w = .ok (.slice (some ⟨w.heap.size,0,none⟩) 0 (4*n)) (w.alloc (.cells C0 5)):=fun w=>by
  obtain⟨m,hm⟩:∃m,m=4*n:=⟨_,rfl⟩
  rw [show (n:Int)*4=(m:Int) by omega,hC0,←hm]
  have h:=run_make (P:=Tryz.prog) w 71 5 i0 _ Tryz.underlying71 hi hz0 .i64 .i64 ((0:Nat):Int) (m:Int) (by omega) (by omega) (by rw [hz2];omega) (by omega)
  rw [hz1,Int.toNat_natCast,Int.toNat_natCast,Nat.mul_one] at h
  exact h
 have HCs:Hid (C0.size=4*n):=Lib.hid (by rw [hC0];simp [madeCells])
 have K0:Hid ((w.alloc (.cells C0 5)).ownsRow w.heap.size 5 1 (.slice (some ⟨w.heap.size,0,none⟩) 0 (4*n)) 0 (u8s [])):=Lib.hid ⟨rfl,.inr ⟨w.heap.size,4*n,C0,rfl,Nat.le_refl _,heap_alloc_new w _,Nat.zero_le _,by unfold maxLen;omega,by rw [HCs.out,Nat.mul_one],by simp [u8s]⟩⟩
 have K5:Hid (Below w.heap.size w (w.alloc (.cells C0 5))):=Lib.hid ((Below.refl _ _).alloc (Nat.le_refl _) _)
 have hnz:(n:Int)≤128:=by omega
 clear hn hf hcell hC0
 go_enter Tryz.func176,Tryz.ntmps176
 go_wp2_with fail
 generalize w.alloc (.cells C0 5)=W at *
 go_loopw [12,3] (fun iv bv wr=>∃i:Nat,i≤n∧iv = .int .i64 (i:Int)∧wr.ownsRow w.heap.size 5 1 bv (4*i) (u8s (fours f i))∧Below w.heap.size w wr) (fun iv _ _=>n - (RowKit.intOf iv).toNat)
 case atStart=>exact⟨0,Nat.zero_le _,by go_num,K0.out,K5.out⟩
 case round=>
  obtain⟨i,hi1,rfl,hown,hbel⟩:=hrel
  have HO:=Lib.hid hown
  have HB:=Lib.hid hbel
  have HI:=Lib.hid hi1
  clear hown hbel hi1
  by_cases hlt:i<n
  ·have hc:=(HB.out.cell (p:=⟨g,o+i,none⟩) (World.block_lt_of_cell? w _ (HC.out i hlt))).trans (HC.out i hlt)
   have hv:=HF.out i
   have HL:=Lib.hid hlt
   have HFS:Hid (u8s (fours f (i+1))=u8s (fours f i)++u8s (four (f i))):=Lib.hid (u8s_append _ _)
   generalize hvv:f i=v at *
   have HV:=Lib.hid hvv
   have hvz:(v:Int)<512:=by omega
   have hvz0:(0:Int)≤(v:Int):=by omega
   have d1:(v:Int) / 16777216=0:=by omega
   have d2:(v:Int) / 65536=0:=by omega
   obtain⟨q,hq⟩:∃q,Hid (v / 256=q):=⟨_,Lib.hid rfl⟩
   obtain⟨r,hr⟩:∃r,Hid (v % 256=r):=⟨_,Lib.hid rfl⟩
   have d3:(v:Int) / 256=(q:Int):=by have:=hq.out;omega
   have d4:(v:Int) % 256=(r:Int):=by have:=hr.out;omega
   have d5:(q:Int)<256:=by have:=hq.out;omega
   have d6:(r:Int)<256:=by have:=hr.out;omega
   have d7:(q:Int) % 256=(q:Int):=by omega
   have HFV:Hid (four v=[0,0,q,r]):=Lib.hid (by unfold four;rw [hq.out,hr.out])
   have HNEW:Hid (∀(j:Nat) (u:Value),(u8s [0,0,q,r])[j]?=some u→(wr.alloc (.cells #[.int .u8 0,.int .u8 0,.int .u8 (q:Int),.int .u8 (r:Int)] 5)).cell? ((⟨wr.heap.size,0,none⟩:Addr).add j)=some u):=Lib.hid fun j u hj=>by
    rw [Addr.add_mid,Nat.zero_add,cell_of_row _ _ j _ _ _ (heap_alloc_new wr _)]
    simpa [u8s] using hj
   clear hlt hvv hv
   go_wp2_with (at_builtin;refine wpList_append_own _ rfl _ _ 71 rfl w.heap.size 5 i0 (.int .u8 0) 1 1 Tryz.underlying71 hi hz0 hz1 hz2 rfl (by decide) _ (4*i) _ rfl (World.ownsRow.alloc HO.out _) ⟨wr.heap.size,0,none⟩ 4 4 (u8s [0,0,q,r]) rfl rfl HNEW.out ?c2 ?c3 ?c4 ?c5 ?_)
   case c2=>exact u8s_one _
   case c3=>unfold maxLen;have:=HN.out;have:=HI.out;omega
   case c4=>have:=HN.out;have:=HI.out;omega
   case c5=>have:=HB.out.size;simp;omega
   intro v' w1 hown hgrow hnil
   have HB1:=Lib.hid ((HB.out.alloc HB.out.size (.cells #[.int .u8 0,.int .u8 0,.int .u8 (q:Int),.int .u8 (r:Int)] 5)).grown hgrow (by have:=HB.out.size;simp;omega) (by intro k2 hk2;exact(World.ownsRow.lt HO.out k2 hk2).1))
   have hown2:w1.ownsRow w.heap.size 5 1 v' (4*(i+1)) (u8s (fours f (i+1))):=by rw [HFS.out,HFV.out];exact hown
   clear hown hgrow hnil
   go_wp2_with fail
   go_roundw
   case rel=>exact⟨i+1,by have:=HL.out;omega,by go_num,hown2,HB1.out⟩
   case measure=>have:=HL.out;simp [RowKit.intOf];omega
  ·obtain rfl:i=n:=by have:=HI.out;omega
   obtain⟨p',c',rfl,hcap⟩:=own_cap HO.out
   have HCP:=Lib.hid hcap
   clear hcap
   have HY:Hid (Bys wr p' (4*i) (fours f i)):=Lib.hid (Bys.own HO.out (fours_dig HF.out i))
   have hlt2:¬ i<i:=Nat.lt_irrefl i
   clear hlt
   go_wp2_with fail
   go_ret
   exact⟨⟨_,_,rfl,HY.out,HCP.out⟩,HB.out⟩
end Go.Proofs.YtmbecjlioogbhaaGreatDoor.Tb
end
section
namespace Go.Proofs.YtmbecjlioogbhaaGreatDoor.Tb
open Go.Proofs.YtmbecjlioogbhaaGreatDoor.Bi
open Go.RowKit
theorem run_part3 (xs:Array Value) (i:Nat) (v:Value) (w:World) (h:xs[i]?=some v):(part 3 xs (i*1)).run Tryz.prog w = .ok v w:=by
 have hu:=Tryz.underlying3
 unfold part
 simp [isAgg,Sem.run_bind,run_underlying hu w,h]
theorem run_int3 (d:Nat) (x y:Int) (w:World):(Op.equalIn (d+1) 3 (.int .i64 x) (.int .i64 y)).run Tryz.prog w = .ok (x == y) w:=by
 have hu:=Tryz.underlying3
 unfold Op.equalIn
 simp [Sem.run_bind,run_underlying hu w]
theorem run_items (d:Nat) (xs ys:Array Value) (f g:Nat→Nat) (n:Nat) (hx:∀i,i<n→xs[i]?=some (.int .i64 ((f i:Nat):Int))) (hy:∀i,i<n→ys[i]?=some (.int .i64 ((g i:Nat):Int))) (w:World) :
  ∀(is:List Nat),(∀i∈is,i<n)→(Op.eqItems (d+1) 3 1 xs ys is).run Tryz.prog w = .ok (is.all fun i=>f i == g i) w
 | [],_=>by simp [Op.eqItems]
 | i :: is,h=>by
  have hi:=h i (List.mem_cons_self ..)
  simp only [Op.eqItems,Sem.run_bind,run_part3 xs i _ w (hx i hi),run_part3 ys i _ w (hy i hi),Result.andThen_ok,run_int3]
  have e:(((f i:Nat):Int) == ((g i:Nat):Int))=(f i == g i):=by rw [Bool.eq_iff_iff];simp only [beq_iff_eq];omega
  rw [e,List.all_cons]
  cases hfg:f i == g i with
  | true=>
   have ih:=run_items d xs ys f g n hx hy w is (fun j hj=>h j (List.mem_cons_of_mem _ hj))
   simp [ih]
  | false=>simp
theorem all_iff (f g:Nat→Nat) (n:Nat):((List.range n).all fun i=>f i == g i)=decide (∀i,i<n→f i=g i):=by
 rw [Bool.eq_iff_iff];simp
def sameN (f g:Nat→Nat) (n:Nat):Bool:=decide (∀i,i<n→f i=g i)
theorem cellsOf3:Tryz.prog.cellsOf 3=1:=by kernel_rfl
theorem eq_row (t n:Nat) (hu:Tryz.prog.underlying t=some (.array n 3)) (f g:Nat→Nat) (a b:Nat) (w:World) :
  (binOp .eql t (.agg (ints f a n).toArray) (.agg (ints g b n).toArray)).run Tryz.prog w = .ok (.bool (sameN (fun i=>f (a+i)) (fun i=>g (b+i)) n)) w:=by
 obtain⟨i0,hi,-⟩:=info_parts (show (Tryz.prog.info? 3).map (fun i=>(i.zero,i.size,i.bytes))=some (some (.int .i64 0),1,8) by kernel_rfl)
 rw [run_eql_struct,show (10000:Nat)=9998+1+1 from rfl,run_equalIn_array w (9998+1) _ _ hu hi,cellsOf3,
  run_items 9998 _ _ (fun i=>f (a+i)) (fun i=>g (b+i)) n (fun i hi=>by simpa using ints_get f a n i hi) (fun i hi=>by simpa using ints_get g b n i hi) w _ (fun i hi=>List.mem_range.1 hi),all_iff]
 rfl
theorem ne_row (t n:Nat) (hu:Tryz.prog.underlying t=some (.array n 3)) (f g:Nat→Nat) (a b:Nat) (w:World) :
  (binOp .neq t (.agg (ints f a n).toArray) (.agg (ints g b n).toArray)).run Tryz.prog w = .ok (.bool (!sameN (fun i=>f (a+i)) (fun i=>g (b+i)) n)) w:=by
 obtain⟨i0,hi,-⟩:=info_parts (show (Tryz.prog.info? 3).map (fun i=>(i.zero,i.size,i.bytes))=some (some (.int .i64 0),1,8) by kernel_rfl)
 rw [run_neq_struct,show (10000:Nat)=9998+1+1 from rfl,run_equalIn_array w (9998+1) _ _ hu hi,cellsOf3,
  run_items 9998 _ _ (fun i=>f (a+i)) (fun i=>g (b+i)) n (fun i hi=>by simpa using ints_get f a n i hi) (fun i hi=>by simpa using ints_get g b n i hi) w _ (fun i hi=>List.mem_range.1 hi),all_iff]
 rfl
theorem guard81:Tryz.prog.eqGuardType Tryz.prog.depth 184=false:=by kernel_rfl
end Go.Proofs.YtmbecjlioogbhaaGreatDoor.Tb
end
