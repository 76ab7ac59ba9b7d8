/- Texts Bring to Put0 of this seat, laid into one. -/
import Derived.Deep.RegionHeld3
import Derived.Deep.DrawnRows
import Derived.Deep.AppendLies
import Derived.Laws.CopyOwn
import Derived.Deep.RegionLaw
import Derived.Laws.IdiomStrings
import Derived.Test.YtmbecjlioogbhaaGreatDoorM07
set_option linter.unusedVariables false
set_option linter.unusedSimpArgs false
set_option linter.constructorNameAsVariable false
namespace Go.Proofs.YtmbecjlioogbhaaGreatDoor
section
set_option maxRecDepth 20000
open Go.RowKit
theorem appN_over (l:List Wr) (L:List (List Nat)) (i:Nat) (s:List Nat):∀j,appN l (L.set i s) j=appN l L j∨(appN l (L.set i s) j=(appN l L j).set i s∧∀r,r<j→(wr l r).1≠i)
 | 0=>.inr ⟨rfl,fun r hr=>absurd hr (Nat.not_lt_zero r)⟩
 | j+1=>by
  rcases appN_over l L i s j with h | ⟨h,hr⟩
  ·left;show (appN l (L.set i s) j).set _ _=(appN l L j).set _ _;rw [h]
  ·by_cases e:(wr l j).1=i
   ·left;show (appN l (L.set i s) j).set _ _=(appN l L j).set _ _;rw [h,e,List.set_set]
   ·right
    refine⟨?_,fun r hr2=>?_⟩
    ·show (appN l (L.set i s) j).set _ _=((appN l L j).set _ _).set _ _
     rw [h,List.set_comm _ _ (Ne.symm e)]
    ·rcases Nat.lt_or_ge r j with h3 | h3
     ·exact hr r h3
     ·obtain rfl:r=j:=by omega
      exact e
theorem last_bring (m:Dsk) (k:Nat) (hk:k<m.row.length) (o:Option Nat):Dsk.last { m with out:=bring m.out (wr m.row k) o }=m.last:=by
 cases o with
 | none=>rfl
 | some a=>
  rcases appN_over m.row m.out (wr m.row k).1 (tear a (wr m.row k).2 (sec m.out (wr m.row k).1)) m.row.length with h | ⟨_,h⟩
  ·exact h
  ·exact absurd rfl (h k hk)
def brung (m:Dsk) (k:Nat) (o:Option Nat):Dsk:={ m with out:=bring m.out (wr m.row k) o }
theorem Ok.brung {m:Dsk} (h:Ok m) {k:Nat} (hk:k<m.row.length) {o:Option Nat} (ho:∀a,o=some a→a≤128):Ok (brung m k o):=
 ⟨Secs128.bring h.out (h.row _ (wr_mem hk)) ho,fun x hx=>by
  have:=h.row x hx
  show x.1<(bring _ _ _).length∧_
  rw [bring_len];exact this,h.fuse0,h.fuse1⟩
section
variable {w:World} {g bO cO bL cL:Nat} {vW:Value} {os ls:List Value} {ws:List Vw} {m:Dsk}
theorem Dk0.brung (h:Dk0 w g bO cO bL cL vW os ls ws m) {k a:Nat} (hk:k<m.row.length) (ha:a≤128) {w1:World} (hb:Below w.heap.size w w1) {v:Value} (hv:Sec w1 v (tear a (wr m.row k).2 (sec m.out (wr m.row k).1))) :
  Dk0 (w1.setCell ⟨bO,(wr m.row k).1,none⟩ v) g bO cO bL cL vW (os.set (wr m.row k).1 v) ls ws (brung m k (some a))∧Chg (foot g bO bL vW) (foot g bO bL vW) w (w1.setCell ⟨bO,(wr m.row k).1,none⟩ v):=by
 have hok:=h.ok.brung hk (o:=some a) (fun b e=>by cases e;exact ha)
 have hi:=(h.ok.row _ (wr_mem hk)).1
 have h1:=h.stay (Chg.of_below (F:=[]) hb) (fun k hk=>by cases hk) (fun k _ hk=>by cases hk)
 have hlen:(Go.Proofs.YtmbecjlioogbhaaGreatDoor.brung m k (some a)).out.length=m.out.length:=bring_len m.out (wr m.row k) (some a)
 have hlast:(Go.Proofs.YtmbecjlioogbhaaGreatDoor.brung m k (some a)).last=m.last:=last_bring m k hk _
 have hc:Chg [bO] [bO] w1 (w1.setCell ⟨bO,(wr m.row k).1,none⟩ v):=Chg.setCell (by simp) v w1
 have hT:Typed w1 [bO]:=fun k hk=>by
  obtain rfl:=List.mem_singleton.1 hk
  obtain⟨cur,hc⟩:=own_head h1.ro rfl;exact⟨_,_,_,hc,.inr (.inl rfl)⟩
 have hs:∀k,k≠bO→k<w1.heap.size→(w1.setCell ⟨bO,(wr m.row k).1,none⟩ v).heap[k]?=w1.heap[k]?:=fun k hk hl=>heap_setCell_other _ _ _ _ hk
 refine⟨⟨?_,?_,?_,?_,?_,?_,?_,h.nil_,h.ne,hok⟩,?_⟩
 ·rw [hlen];exact(heap_setCell_other _ _ _ _ h.ne_gO).trans h1.hd
 ·rw [hlen];exact(h1.ro.stored _ v).1
 ·rw [hlen];exact own_other h1.rl (fun k hk=>heap_setCell_other _ _ _ _ (by cases hk;exact Ne.symm h.ne))
 ·exact own_other h1.rw_ (fun k hk=>heap_setCell_other _ _ _ _ (Ne.symm (h.ne_OW _ hk)))
 ·show Secs _ _ (m.out.set _ _)
  exact(h1.so.set hi hv).chg hc hT
 ·rw [hlast];exact h1.sl.chg hc hT
 ·exact h1.sw.chg hc hT
 ·exact(Chg.of_below hb).trans (Chg.setCell (by simp [foot]) v w1)
set_option maxHeartbeats 1600000 in
theorem bringOut_any (h:Dk0 w g bO cO bL cL vW os ls ws m) (k a:Nat) (hk:k<m.row.length) (ha:a≤128) (hl:m.row.length≤4611686018427387904) :
  Calls Tryz.prog 44 #[.pointer (some ⟨g,0,none⟩),.int .i64 (k:Int),.int .i64 (a:Int)] w fun e w'=>e = .returned (.tuple #[])∧∃v,Stays g bO cO bL cL vW (os.set (wr m.row k).1 v) ls ws (brung m k (some a)) w w':=by
 have HH:=Lib.hid h
 obtain⟨hi,hs,hd⟩:=h.ok.row _ (wr_mem hk)
 obtain⟨hvi,hvs⟩:=h.sw.at_ k hk
 obtain⟨bD,cD,hvD,hBD,hltD,hD1,hD2⟩:=hvs.bys
 obtain⟨bS,cS,hvS,hBS,hltS,hS1,hS2⟩:=(h.so.at_ _ hi).bys
 have hc0:=h.c0
 have hc2:=h.c2
 have hfl:=flat_get ws k (by rw [h.sw.len];exact hk)
 rw [hvi,hvD] at hfl
 have hrw:=h.rw_
 obtain⟨bW,cW,rfl,_⟩:=hrw.form (by omega)
 have hw0:=hrw.cellAt (k*2) (by omega)
 have hw1:=hrw.cellAt (k*2+1) (by omega)
 rw [hfl.1] at hw0
 rw [hfl.2] at hw1
 have hoi:=h.ro.cellAt (wr m.row k).1 (by omega)
 rw [vAt_get (by rw [h.so.len];exact hi),hvS] at hoi
 have hfz:=h.ro.frozenAt (wr m.row k).1
 have hcW:=hrw.2
 have HBD:=Lib.hid hBD
 have HBS:=Lib.hid hBS
 have HNE:=Lib.hid h.ne_gO
 have hkl:(k:Int)<(m.row.length:Int):=by omega
 have hil:((wr m.row k).1:Int)<(m.out.length:Int):=by omega
 have HX:Hid (∀w1 v,Below w.heap.size w w1→Sec w1 v (tear a (wr m.row k).2 (sec m.out (wr m.row k).1))→∃u,Stays g bO cO bL cL (.slice (some ⟨bW,0,none⟩) m.row.length cW) (os.set (wr m.row k).1 u) ls ws (brung m k (some a)) w (w1.setCell ⟨bO,(wr m.row k).1,none⟩ v)):=
  Lib.hid (fun w1 v hb hv=>⟨v,h.brung hk ha hb hv⟩)
 have hgW:=h.lt
 have hOl:bO<w.heap.size:=by obtain⟨cur,hc⟩:=own_head h.ro rfl;exact lt_of_block hc
 clear hfl hrw hcW hBD hBS h hvi hvs hvD hvS
 have HT:Hid (tear a (wr m.row k).2 (sec m.out (wr m.row k).1)=(wr m.row k).2.take a++(sec m.out (wr m.row k).1).drop a):=Lib.hid rfl
 have HTL:Hid ((tear a (wr m.row k).2 (sec m.out (wr m.row k).1)).length=128):=Lib.hid (tear_len _ _ _ hs HBS.out.len ha)
 have HTD:Hid (∀d∈tear a (wr m.row k).2 (sec m.out (wr m.row k).1),d<256):=Lib.hid (tear_dig _ _ _ hd HBS.out.dig)
 clear hs hd
 generalize (wr m.row k).1=i at *
 generalize (wr m.row k).2=t at *
 generalize sec m.out i=s at *
 generalize tear a t s=r at *
 have HW2:Hid (Below w.heap.size w (w.alloc (.cells #[.int .i64 (i:Int),.slice (some ⟨bD,0,none⟩) 128 cD] 151))):=Lib.hid ((Below.refl _ _).alloc (Nat.le_refl _) _)
 have HN1:Hid ((w.alloc (.cells #[.int .i64 (i:Int),.slice (some ⟨bD,0,none⟩) 128 cD] 151)).cell? ⟨w.heap.size,0,none⟩=some (.int .i64 (i:Int))):=Lib.hid (World.cell?_alloc_new w _ _ 0)
 have HN2:Hid ((w.alloc (.cells #[.int .i64 (i:Int),.slice (some ⟨bD,0,none⟩) 128 cD] 151)).cell? ⟨w.heap.size,1,none⟩=some (.slice (some ⟨bD,0,none⟩) 128 cD)):=Lib.hid (World.cell?_alloc_new w _ _ 1)
 go_enter Tryz.func44,Tryz.ntmps44
 go_wp2_with fail
 generalize w.alloc (.cells #[.int .i64 (i:Int),.slice (some ⟨bD,0,none⟩) 128 cD] 151)=w2 at *
 have n0:w2.cell? ⟨g,0,none⟩=some (.slice (some ⟨bO,0,none⟩) m.out.length cO):=(HW2.out.cell (p:=⟨g,0,none⟩) hgW).trans hc0
 have n3:w2.cell? ⟨bO,i,none⟩=some (.slice (some ⟨bS,0,none⟩) 128 cS):=(HW2.out.cell (p:=⟨bO,i,none⟩) hOl).trans hoi
 have nf:w2.frozen? ⟨bO,i,none⟩=false:=(HW2.out.frozen (p:=⟨bO,i,none⟩) hOl).trans hfz
 have n1:=HN1.out
 have n2:=HN2.out
 clear HN1 HN2 hc0 hc2 hw0 hw1 hoi hfz
 have hsz:w.heap.size<w2.heap.size:=block_lt_of_cell n1
 obtain⟨H,hH⟩:∃H,Hid (w.heap.size=H):=⟨_,Lib.hid rfl⟩
 have HC:∀(p:Option Addr),Bys w p (128 - a) (s.drop a)→Fit p (128 - a) (cS - a)→Hid (∀w1,Below w2.heap.size w2 w1→Calls Tryz.prog 90 #[.slice (some ⟨w1.heap.size,0,none⟩) 2 2] (w1.alloc (.cells #[.slice (some ⟨bD,0,none⟩) a cD,.slice p (128 - a) (cS - a)] 71)) fun e w'=>
   ∃b c,e = .returned (.slice (some ⟨b,0,none⟩) 128 c)∧Hid (Sec w' (.slice (some ⟨b,0,none⟩) 128 c) r∧Below w2.heap.size w2 w')):=fun p hp hf=>Lib.hid (fun w1 hb=>
  (two_made w2 w1 (some ⟨bD,0,none⟩) p a cD (128 - a) (cS - a) _ _ hb ((HBD.out.take ha).below HW2.out) (hp.below HW2.out) ⟨by omega,fun h=>by cases h⟩ hf (by omega)).mono (by
    rintro e w' ⟨⟨v,rfl,q,c,rfl,ho⟩,hb2⟩
    rw [←HT.out,HTL.out] at ho
    rw [←HT.out,HTL.out]
    have hS:=Sec.of_own ho HTD.out
    obtain⟨b,c,e,_⟩:=hS.bys
    rw [e] at hS ⊢
    exact⟨b,c,rfl,hS,hb2⟩))
 have HW2':=Lib.hid (show ∀w3,Below w2.heap.size w2 w3→Below w.heap.size w w3 from fun w3 h3=>HW2.out.trans (h3.mono HW2.out.size))
 by_cases hac:cS=a
 ·have HCc:=HC (some ⟨bS,0,none⟩) (by
   obtain rfl:a=128:=by omega
   rw [List.drop_of_length_le (by rw [HBS.out.len];omega)]
   exact Bys.zero _ _) ⟨by omega,fun h=>by cases h⟩
  clear HC
  rw [show 128 - a=0 by omega,show cS - a=0 by omega] at HCc
  subst hac
  have b1:(0:Int)≤(cS:Int):=by omega
  have b2:(cS:Int)≤128:=by omega
  have b3:(cS:Int)≤(cD:Int):=by omega
  have b7:(0:Int)≤(i:Int):=by omega
  have hgs:g<w2.heap.size:=Nat.lt_trans hgW hsz
  have hos:bO<w2.heap.size:=Nat.lt_trans hOl hsz
  refine wp_region_held_drew (S:=(fun w'=>w'.cell? ⟨g,0,none⟩=some (.slice (some ⟨bO,0,none⟩) m.out.length cO)∧w'.cell? ⟨w.heap.size,0,none⟩=some (.int .i64 (i:Int))∧w'.cell? ⟨w.heap.size,1,none⟩=some (.slice (some ⟨bD,0,none⟩) 128 cD))) (by kernel_rfl) ⟨n0,n1,n2⟩ (fun hHeld=>?_)
  refine wpAnyH_take (i:=0) (v:=?_) rfl (by kernel_rfl) (by kernel_rfl) (by kernel_rfl) (fun _ _ _ h=>h) (Or.inl ⟨by rfl,?_⟩) (by assumption) ?_
  rotate_left
  ·intro w hSw
   try dsimp only at hSw
   go_simp
   all_goals (with_reducible rfl)
  try simp only [Act.put]
  try simp only [List.setIfInBounds_toArray]
  try simp only [List.set]
  refine wpAnyH_take (i:=1) (v:=?_) rfl (by kernel_rfl) (by kernel_rfl) (by kernel_rfl) (fun _ _ _ h=>h) (Or.inl ⟨by rfl,?_⟩) (by assumption) ?_
  rotate_left
  ·intro w hSw
   try dsimp only at hSw
   go_simp
   all_goals (with_reducible rfl)
  try simp only [Act.put]
  try simp only [List.setIfInBounds_toArray]
  try simp only [List.set]
  refine wpAnyH_take (i:=2) (v:=?_) rfl (by kernel_rfl) (by kernel_rfl) (by kernel_rfl) (fun _ _ _ h=>h) (Or.inl ⟨by rfl,?_⟩) (by assumption) ?_
  rotate_left
  ·intro w hSw
   try dsimp only at hSw
   go_simp
   all_goals (with_reducible rfl)
  try simp only [Act.put]
  try simp only [List.setIfInBounds_toArray]
  try simp only [List.set]
  refine wpAnyH_take (i:=3) (v:=?_) rfl (by kernel_rfl) (by kernel_rfl) (by kernel_rfl) (fun _ _ _ h=>h) (Or.inl ⟨by rfl,?_⟩) (by assumption) ?_
  rotate_left
  ·intro w hSw
   try dsimp only at hSw
   go_simp
   all_goals (with_reducible rfl)
  try simp only [Act.put]
  try simp only [List.setIfInBounds_toArray]
  try simp only [List.set]
  refine wpAnyH_take (i:=4) (v:=?_) rfl (by kernel_rfl) (by kernel_rfl) (by kernel_rfl) (fun _ _ _ h=>h) (Or.inl ⟨by rfl,?_⟩) (by assumption) ?_
  rotate_left
  ·intro w hSw
   try dsimp only at hSw
   go_simp
   all_goals (with_reducible rfl)
  try simp only [Act.put]
  try simp only [List.setIfInBounds_toArray]
  try simp only [List.set]
  refine wpAnyH_take (i:=5) (v:=?_) rfl (by kernel_rfl) (by kernel_rfl) (by kernel_rfl) (fun _ _ _ h=>h) (Or.inl ⟨by rfl,?_⟩) (by assumption) ?_
  rotate_left
  ·intro w hSw
   try dsimp only at hSw
   go_simp
   all_goals (with_reducible rfl)
  try simp only [Act.put]
  try simp only [List.setIfInBounds_toArray]
  try simp only [List.set]
  refine wpAnyH_take (i:=6) (v:=?_) rfl (by kernel_rfl) (by kernel_rfl) (by kernel_rfl) (fun _ _ _ h=>h) (Or.inl ⟨by rfl,?_⟩) (by assumption) ?_
  rotate_left
  ·intro w hSw
   try dsimp only at hSw
   go_simp
   all_goals (with_reducible rfl)
  try simp only [Act.put]
  try simp only [List.setIfInBounds_toArray]
  try simp only [List.set]
  refine wpAnyH_take (i:=7) (v:=?_) rfl (by kernel_rfl) (by kernel_rfl) (by kernel_rfl) (fun _ _ _ h=>h) (Or.inl ⟨by rfl,?_⟩) (by assumption) ?_
  rotate_left
  ·intro w hSw
   try dsimp only at hSw
   go_simp
   all_goals (with_reducible rfl)
  try simp only [Act.put]
  try simp only [List.setIfInBounds_toArray]
  try simp only [List.set]
  refine wpAnyH_take (i:=8) (v:=?_) rfl (by kernel_rfl) (by kernel_rfl) (by kernel_rfl) (fun _ _ _ h=>h) (Or.inl ⟨by rfl,?_⟩) (by assumption) ?_
  rotate_left
  ·intro w hSw
   try dsimp only at hSw
   go_simp
   all_goals (with_reducible rfl)
  try simp only [Act.put]
  try simp only [List.setIfInBounds_toArray]
  try simp only [List.set]
  refine wpAnyH_take (i:=9) (v:=?_) rfl (by kernel_rfl) (by kernel_rfl) (by kernel_rfl) (fun _ _ _ h=>h) (Or.inl ⟨by rfl,?_⟩) (by assumption) ?_
  rotate_left
  ·intro w hSw
   try dsimp only at hSw
   go_simp
   all_goals (with_reducible rfl)
  try simp only [Act.put]
  try simp only [List.setIfInBounds_toArray]
  try simp only [List.set]
  refine wpAnyH_take (i:=10) (v:=?_) rfl (by kernel_rfl) (by kernel_rfl) (by kernel_rfl) (fun _ _ _ h=>h) (Or.inl ⟨by rfl,?_⟩) (by assumption) ?_
  rotate_left
  ·intro w hSw
   try dsimp only at hSw
   go_simp
   all_goals (with_reducible rfl)
  try simp only [Act.put]
  try simp only [List.setIfInBounds_toArray]
  try simp only [List.set]
  refine wpAnyH_take (i:=11) (v:=?_) rfl (by kernel_rfl) (by kernel_rfl) (by kernel_rfl) (fun _ _ _ h=>h) (Or.inl ⟨by rfl,?_⟩) (by assumption) ?_
  rotate_left
  ·intro w hSw
   try dsimp only at hSw
   go_simp
   all_goals (with_reducible rfl)
  try simp only [Act.put]
  try simp only [List.setIfInBounds_toArray]
  try simp only [List.set]
  refine wpAnyH_take (i:=12) (v:=?_) rfl (by kernel_rfl) (by kernel_rfl) (by kernel_rfl) (fun _ _ _ h=>h) (Or.inl ⟨by rfl,?_⟩) (by assumption) ?_
  rotate_left
  ·intro w hSw
   try dsimp only at hSw
   go_simp
   all_goals (with_reducible rfl)
  try simp only [Act.put]
  try simp only [List.setIfInBounds_toArray]
  try simp only [List.set]
  refine wpAnyH_take (i:=13) (v:=?_) rfl (by kernel_rfl) (by kernel_rfl) (by kernel_rfl) (fun _ _ _ h=>h) (Or.inl ⟨by rfl,?_⟩) (by assumption) ?_
  rotate_left
  ·intro w hSw
   try dsimp only at hSw
   go_simp
   all_goals (with_reducible rfl)
  try simp only [Act.put]
  try simp only [List.setIfInBounds_toArray]
  try simp only [List.set]
  refine wpAnyH_take (i:=14) (v:=?_) rfl (by kernel_rfl) (by kernel_rfl) (by kernel_rfl) (fun _ _ _ h=>h) (Or.inl ⟨by rfl,?_⟩) (by assumption) ?_
  rotate_left
  ·intro w hSw
   try dsimp only at hSw
   go_simp
   all_goals (with_reducible rfl)
  try simp only [Act.put]
  try simp only [List.setIfInBounds_toArray]
  try simp only [List.set]
  refine wpAnyH_take (i:=15) (v:=?_) rfl (by kernel_rfl) (by kernel_rfl) (by kernel_rfl) (fun _ _ _ h=>h) (Or.inl ⟨by rfl,?_⟩) (by assumption) ?_
  rotate_left
  ·intro w hSw
   try dsimp only at hSw
   go_simp
   all_goals (with_reducible rfl)
  try simp only [Act.put]
  try simp only [List.setIfInBounds_toArray]
  try simp only [List.set]
  refine wpAnyH_take (i:=16) (v:=?_) rfl (by kernel_rfl) (by kernel_rfl) (by kernel_rfl) (fun _ _ _ h=>h) (Or.inl ⟨by rfl,?_⟩) (by assumption) ?_
  rotate_left
  ·intro w hSw
   try dsimp only at hSw
   go_simp
   all_goals (with_reducible rfl)
  try simp only [Act.put]
  try simp only [List.setIfInBounds_toArray]
  try simp only [List.set]
  refine wpAnyH_take (i:=18) (v:=?_) rfl (by kernel_rfl) (by kernel_rfl) (by kernel_rfl) (fun _ _ _ h=>h) (Or.inl ⟨by rfl,?_⟩) (by assumption) ?_
  rotate_left
  ·intro w hSw
   try dsimp only at hSw
   go_simp
   all_goals (with_reducible rfl)
  try simp only [Act.put]
  try simp only [List.setIfInBounds_toArray]
  try simp only [List.set]
  refine wpAnyH_ready (rs:=[17]) (by kernel_rfl) (by simp) ?_
  refine AllReadyH.cons rfl (fun K hK=>?_) AllReadyH.nil
  go_simp
  refine hK.out _ _ ?_ (fun hHeld=>?_)
  ·exact⟨n0,n1,n2⟩
  clear hK K
  try simp only [Act.put]
  try simp only [List.setIfInBounds_toArray]
  try simp only [List.set]
  refine wpAnyH_take (i:=19) (v:=?_) rfl (by kernel_rfl) (by kernel_rfl) (by kernel_rfl) (fun _ _ _ h=>h) (Or.inl ⟨by rfl,?_⟩) (by assumption) ?_
  rotate_left
  ·intro w hSw
   try dsimp only at hSw
   go_simp
   all_goals (with_reducible rfl)
  try simp only [Act.put]
  try simp only [List.setIfInBounds_toArray]
  try simp only [List.set]
  refine wpAnyH_ready (rs:=[20]) (by kernel_rfl) (by simp) ?_
  refine AllReadyH.cons rfl (fun K hK=>?_) AllReadyH.nil
  go_simp
  refine hK.out _ _ ?_ (fun hHeld=>?_)
  ·exact⟨(World.cell?_alloc_lt _ _ _ hgs).trans n0,(World.cell?_alloc_lt _ _ _ hsz).trans n1,(World.cell?_alloc_lt _ _ _ hsz).trans n2⟩
  clear hK K
  try simp only [Act.put]
  try simp only [List.setIfInBounds_toArray]
  try simp only [List.set]
  refine wpAnyH_ready (rs:=[21]) (by kernel_rfl) (by simp) ?_
  refine AllReadyH.cons rfl (fun K hK=>?_) AllReadyH.nil
  go_simp
  refine(HCc.out _ (by exact(Below.refl _ _).drew)).mono ?_
  rintro e w3 ⟨bN,cN,rfl,H3⟩
  have k0:=(H3.out.2.cell (p:=⟨g,0,none⟩) hgs).trans n0
  have k1:=(H3.out.2.cell (p:=⟨bO,i,none⟩) hos).trans n3
  have k2:=(H3.out.2.cell (p:=⟨w.heap.size,0,none⟩) hsz).trans n1
  have k3:=(H3.out.2.cell (p:=⟨w.heap.size,1,none⟩) hsz).trans n2
  have k4:=(H3.out.2.frozen (p:=⟨bO,i,none⟩) hos).trans nf
  clear hHeld
  go_simp
  refine hK.out _ _ ?_ (fun hHeld=>?_)
  ·exact⟨k0,k2,k3⟩
  clear hK K
  try simp only [Act.put]
  try simp only [List.setIfInBounds_toArray]
  try simp only [List.set]
  refine wpAnyH_take (i:=22) (v:=?_) rfl (by kernel_rfl) (by kernel_rfl) (by kernel_rfl) (fun _ _ _ h=>h) (Or.inl ⟨by rfl,?_⟩) (by assumption) ?_
  rotate_left
  ·intro w hSw
   try dsimp only at hSw
   go_simp
   all_goals (with_reducible rfl)
  try simp only [Act.put]
  try simp only [List.setIfInBounds_toArray]
  try simp only [List.set]
  refine wpAnyH_ready (rs:=[23]) (by kernel_rfl) (by simp) ?_
  refine AllReadyH.cons rfl (fun K hK=>?_) AllReadyH.nil
  go_simp
  refine hK.out _ _ ?_ (fun hHeld=>?_)
  ·exact⟨(World.cell?_setCell_far _ _ _ _ (Ne.symm HNE.out)).trans k0,(World.cell?_setCell_far _ _ _ _ (Nat.ne_of_lt hOl)).trans k2,(World.cell?_setCell_far _ _ _ _ (Nat.ne_of_lt hOl)).trans k3⟩
  clear hK K
  try simp only [Act.put]
  try simp only [List.setIfInBounds_toArray]
  try simp only [List.set]
  refine wpAnyH_done (by kernel_rfl) ?_ _
  go_end0
  exact⟨rfl,HX.out _ _ (HW2'.out _ H3.out.2) H3.out.1⟩
 ·have HCc:=HC (some ⟨bS,a,none⟩) (by
   have:=HBS.out.drop (k:=a) (j:=128 - a) (by omega)
   rw [Nat.zero_add] at this;exact this) ⟨by omega,fun h=>by cases h⟩
  clear HC
  have hac2:(a:Int)<(cS:Int):=by omega
  have b1:(0:Int)≤(a:Int):=by omega
  have b2:(a:Int)≤128:=by omega
  have b3:(a:Int)≤(cD:Int):=by omega
  have b4:(a:Int)≤(cS:Int):=by omega
  have b7:(0:Int)≤(i:Int):=by omega
  have q1:(⟨bO,i,none⟩:Addr).block≠(⟨g,0,none⟩:Addr).block:=Ne.symm HNE.out
  have q2:bO≠w.heap.size:=Nat.ne_of_lt hOl
  have hgs:g<w2.heap.size:=Nat.lt_trans hgW hsz
  have hos:bO<w2.heap.size:=Nat.lt_trans hOl hsz
  refine wp_region_held_drew (S:=(fun w'=>w'.cell? ⟨g,0,none⟩=some (.slice (some ⟨bO,0,none⟩) m.out.length cO)∧w'.cell? ⟨w.heap.size,0,none⟩=some (.int .i64 (i:Int))∧w'.cell? ⟨w.heap.size,1,none⟩=some (.slice (some ⟨bD,0,none⟩) 128 cD))) (by kernel_rfl) ⟨n0,n1,n2⟩ (fun hHeld=>?_)
  refine wpAnyH_take (i:=0) (v:=?_) rfl (by kernel_rfl) (by kernel_rfl) (by kernel_rfl) (fun _ _ _ h=>h) (Or.inl ⟨by rfl,?_⟩) (by assumption) ?_
  rotate_left
  ·intro w hSw
   try dsimp only at hSw
   go_simp
   all_goals (with_reducible rfl)
  try simp only [Act.put]
  try simp only [List.setIfInBounds_toArray]
  try simp only [List.set]
  refine wpAnyH_take (i:=1) (v:=?_) rfl (by kernel_rfl) (by kernel_rfl) (by kernel_rfl) (fun _ _ _ h=>h) (Or.inl ⟨by rfl,?_⟩) (by assumption) ?_
  rotate_left
  ·intro w hSw
   try dsimp only at hSw
   go_simp
   all_goals (with_reducible rfl)
  try simp only [Act.put]
  try simp only [List.setIfInBounds_toArray]
  try simp only [List.set]
  refine wpAnyH_take (i:=2) (v:=?_) rfl (by kernel_rfl) (by kernel_rfl) (by kernel_rfl) (fun _ _ _ h=>h) (Or.inl ⟨by rfl,?_⟩) (by assumption) ?_
  rotate_left
  ·intro w hSw
   try dsimp only at hSw
   go_simp
   all_goals (with_reducible rfl)
  try simp only [Act.put]
  try simp only [List.setIfInBounds_toArray]
  try simp only [List.set]
  refine wpAnyH_take (i:=3) (v:=?_) rfl (by kernel_rfl) (by kernel_rfl) (by kernel_rfl) (fun _ _ _ h=>h) (Or.inl ⟨by rfl,?_⟩) (by assumption) ?_
  rotate_left
  ·intro w hSw
   try dsimp only at hSw
   go_simp
   all_goals (with_reducible rfl)
  try simp only [Act.put]
  try simp only [List.setIfInBounds_toArray]
  try simp only [List.set]
  refine wpAnyH_take (i:=4) (v:=?_) rfl (by kernel_rfl) (by kernel_rfl) (by kernel_rfl) (fun _ _ _ h=>h) (Or.inl ⟨by rfl,?_⟩) (by assumption) ?_
  rotate_left
  ·intro w hSw
   try dsimp only at hSw
   go_simp
   all_goals (with_reducible rfl)
  try simp only [Act.put]
  try simp only [List.setIfInBounds_toArray]
  try simp only [List.set]
  refine wpAnyH_take (i:=5) (v:=?_) rfl (by kernel_rfl) (by kernel_rfl) (by kernel_rfl) (fun _ _ _ h=>h) (Or.inl ⟨by rfl,?_⟩) (by assumption) ?_
  rotate_left
  ·intro w hSw
   try dsimp only at hSw
   go_simp
   all_goals (with_reducible rfl)
  try simp only [Act.put]
  try simp only [List.setIfInBounds_toArray]
  try simp only [List.set]
  refine wpAnyH_take (i:=6) (v:=?_) rfl (by kernel_rfl) (by kernel_rfl) (by kernel_rfl) (fun _ _ _ h=>h) (Or.inl ⟨by rfl,?_⟩) (by assumption) ?_
  rotate_left
  ·intro w hSw
   try dsimp only at hSw
   go_simp
   all_goals (with_reducible rfl)
  try simp only [Act.put]
  try simp only [List.setIfInBounds_toArray]
  try simp only [List.set]
  refine wpAnyH_take (i:=7) (v:=?_) rfl (by kernel_rfl) (by kernel_rfl) (by kernel_rfl) (fun _ _ _ h=>h) (Or.inl ⟨by rfl,?_⟩) (by assumption) ?_
  rotate_left
  ·intro w hSw
   try dsimp only at hSw
   go_simp
   all_goals (with_reducible rfl)
  try simp only [Act.put]
  try simp only [List.setIfInBounds_toArray]
  try simp only [List.set]
  refine wpAnyH_take (i:=8) (v:=?_) rfl (by kernel_rfl) (by kernel_rfl) (by kernel_rfl) (fun _ _ _ h=>h) (Or.inl ⟨by rfl,?_⟩) (by assumption) ?_
  rotate_left
  ·intro w hSw
   try dsimp only at hSw
   go_simp
   all_goals (with_reducible rfl)
  try simp only [Act.put]
  try simp only [List.setIfInBounds_toArray]
  try simp only [List.set]
  refine wpAnyH_take (i:=9) (v:=?_) rfl (by kernel_rfl) (by kernel_rfl) (by kernel_rfl) (fun _ _ _ h=>h) (Or.inl ⟨by rfl,?_⟩) (by assumption) ?_
  rotate_left
  ·intro w hSw
   try dsimp only at hSw
   go_simp
   all_goals (with_reducible rfl)
  try simp only [Act.put]
  try simp only [List.setIfInBounds_toArray]
  try simp only [List.set]
  refine wpAnyH_take (i:=10) (v:=?_) rfl (by kernel_rfl) (by kernel_rfl) (by kernel_rfl) (fun _ _ _ h=>h) (Or.inl ⟨by rfl,?_⟩) (by assumption) ?_
  rotate_left
  ·intro w hSw
   try dsimp only at hSw
   go_simp
   all_goals (with_reducible rfl)
  try simp only [Act.put]
  try simp only [List.setIfInBounds_toArray]
  try simp only [List.set]
  refine wpAnyH_take (i:=11) (v:=?_) rfl (by kernel_rfl) (by kernel_rfl) (by kernel_rfl) (fun _ _ _ h=>h) (Or.inl ⟨by rfl,?_⟩) (by assumption) ?_
  rotate_left
  ·intro w hSw
   try dsimp only at hSw
   go_simp
   all_goals (with_reducible rfl)
  try simp only [Act.put]
  try simp only [List.setIfInBounds_toArray]
  try simp only [List.set]
  refine wpAnyH_take (i:=12) (v:=?_) rfl (by kernel_rfl) (by kernel_rfl) (by kernel_rfl) (fun _ _ _ h=>h) (Or.inl ⟨by rfl,?_⟩) (by assumption) ?_
  rotate_left
  ·intro w hSw
   try dsimp only at hSw
   go_simp
   all_goals (with_reducible rfl)
  try simp only [Act.put]
  try simp only [List.setIfInBounds_toArray]
  try simp only [List.set]
  refine wpAnyH_take (i:=13) (v:=?_) rfl (by kernel_rfl) (by kernel_rfl) (by kernel_rfl) (fun _ _ _ h=>h) (Or.inl ⟨by rfl,?_⟩) (by assumption) ?_
  rotate_left
  ·intro w hSw
   try dsimp only at hSw
   go_simp
   all_goals (with_reducible rfl)
  try simp only [Act.put]
  try simp only [List.setIfInBounds_toArray]
  try simp only [List.set]
  refine wpAnyH_take (i:=14) (v:=?_) rfl (by kernel_rfl) (by kernel_rfl) (by kernel_rfl) (fun _ _ _ h=>h) (Or.inl ⟨by rfl,?_⟩) (by assumption) ?_
  rotate_left
  ·intro w hSw
   try dsimp only at hSw
   go_simp
   all_goals (with_reducible rfl)
  try simp only [Act.put]
  try simp only [List.setIfInBounds_toArray]
  try simp only [List.set]
  refine wpAnyH_take (i:=15) (v:=?_) rfl (by kernel_rfl) (by kernel_rfl) (by kernel_rfl) (fun _ _ _ h=>h) (Or.inl ⟨by rfl,?_⟩) (by assumption) ?_
  rotate_left
  ·intro w hSw
   try dsimp only at hSw
   go_simp
   all_goals (with_reducible rfl)
  try simp only [Act.put]
  try simp only [List.setIfInBounds_toArray]
  try simp only [List.set]
  refine wpAnyH_take (i:=16) (v:=?_) rfl (by kernel_rfl) (by kernel_rfl) (by kernel_rfl) (fun _ _ _ h=>h) (Or.inl ⟨by rfl,?_⟩) (by assumption) ?_
  rotate_left
  ·intro w hSw
   try dsimp only at hSw
   go_simp
   all_goals (with_reducible rfl)
  try simp only [Act.put]
  try simp only [List.setIfInBounds_toArray]
  try simp only [List.set]
  refine wpAnyH_take (i:=18) (v:=?_) rfl (by kernel_rfl) (by kernel_rfl) (by kernel_rfl) (fun _ _ _ h=>h) (Or.inl ⟨by rfl,?_⟩) (by assumption) ?_
  rotate_left
  ·intro w hSw
   try dsimp only at hSw
   go_simp
   all_goals (with_reducible rfl)
  try simp only [Act.put]
  try simp only [List.setIfInBounds_toArray]
  try simp only [List.set]
  refine wpAnyH_ready (rs:=[17]) (by kernel_rfl) (by simp) ?_
  refine AllReadyH.cons rfl (fun K hK=>?_) AllReadyH.nil
  go_simp
  refine hK.out _ _ ?_ (fun hHeld=>?_)
  ·exact⟨n0,n1,n2⟩
  clear hK K
  try simp only [Act.put]
  try simp only [List.setIfInBounds_toArray]
  try simp only [List.set]
  refine wpAnyH_take (i:=19) (v:=?_) rfl (by kernel_rfl) (by kernel_rfl) (by kernel_rfl) (fun _ _ _ h=>h) (Or.inl ⟨by rfl,?_⟩) (by assumption) ?_
  rotate_left
  ·intro w hSw
   try dsimp only at hSw
   go_simp
   all_goals (with_reducible rfl)
  try simp only [Act.put]
  try simp only [List.setIfInBounds_toArray]
  try simp only [List.set]
  refine wpAnyH_ready (rs:=[20]) (by kernel_rfl) (by simp) ?_
  refine AllReadyH.cons rfl (fun K hK=>?_) AllReadyH.nil
  go_simp
  refine hK.out _ _ ?_ (fun hHeld=>?_)
  ·exact⟨(World.cell?_alloc_lt _ _ _ hgs).trans n0,(World.cell?_alloc_lt _ _ _ hsz).trans n1,(World.cell?_alloc_lt _ _ _ hsz).trans n2⟩
  clear hK K
  try simp only [Act.put]
  try simp only [List.setIfInBounds_toArray]
  try simp only [List.set]
  refine wpAnyH_ready (rs:=[21]) (by kernel_rfl) (by simp) ?_
  refine AllReadyH.cons rfl (fun K hK=>?_) AllReadyH.nil
  go_simp
  refine(HCc.out _ (by exact(Below.refl _ _).drew)).mono ?_
  rintro e w3 ⟨bN,cN,rfl,H3⟩
  have k0:=(H3.out.2.cell (p:=⟨g,0,none⟩) hgs).trans n0
  have k1:=(H3.out.2.cell (p:=⟨bO,i,none⟩) hos).trans n3
  have k2:=(H3.out.2.cell (p:=⟨w.heap.size,0,none⟩) hsz).trans n1
  have k3:=(H3.out.2.cell (p:=⟨w.heap.size,1,none⟩) hsz).trans n2
  have k4:=(H3.out.2.frozen (p:=⟨bO,i,none⟩) hos).trans nf
  clear hHeld
  go_simp
  refine hK.out _ _ ?_ (fun hHeld=>?_)
  ·exact⟨k0,k2,k3⟩
  clear hK K
  try simp only [Act.put]
  try simp only [List.setIfInBounds_toArray]
  try simp only [List.set]
  refine wpAnyH_take (i:=22) (v:=?_) rfl (by kernel_rfl) (by kernel_rfl) (by kernel_rfl) (fun _ _ _ h=>h) (Or.inl ⟨by rfl,?_⟩) (by assumption) ?_
  rotate_left
  ·intro w hSw
   try dsimp only at hSw
   go_simp
   all_goals (with_reducible rfl)
  try simp only [Act.put]
  try simp only [List.setIfInBounds_toArray]
  try simp only [List.set]
  refine wpAnyH_ready (rs:=[23]) (by kernel_rfl) (by simp) ?_
  refine AllReadyH.cons rfl (fun K hK=>?_) AllReadyH.nil
  go_simp
  refine hK.out _ _ ?_ (fun hHeld=>?_)
  ·exact⟨(World.cell?_setCell_far _ _ _ _ (Ne.symm HNE.out)).trans k0,(World.cell?_setCell_far _ _ _ _ (Nat.ne_of_lt hOl)).trans k2,(World.cell?_setCell_far _ _ _ _ (Nat.ne_of_lt hOl)).trans k3⟩
  clear hK K
  try simp only [Act.put]
  try simp only [List.setIfInBounds_toArray]
  try simp only [List.set]
  refine wpAnyH_done (by kernel_rfl) ?_ _
  go_end0
  exact⟨rfl,HX.out _ _ (HW2'.out _ H3.out.2) H3.out.1⟩
end
end
section
set_option maxRecDepth 20000
open Go.RowKit
theorem step_copy_at {P:Program} {ops:Array Oper} {o:Oper} {a:Act} {w:World} {K:Act→World→Prop} {Q:Exit→Act→World→Prop} {E:Prop} (hgd:o.guard=none) (d s:Operand) (dT sT:TypeId)
  (ho:o.op = .call { callee:=.builtin .copy,args:=#[d,s],argTypes:=#[dT,sT] }) (elem:TypeId) (hu:P.underlying dT=some (.slice elem)) (hsz:(P.info? elem).map (·.size)=some 1)
  (g dLen dCap:Nat) (ad:Addr) (sLen sCap:Nat) (hd:a.eval d = .slice (some ⟨g,0,none⟩) dLen dCap) (hs:a.eval s = .slice (some ad) sLen sCap)
  (cur:Array Value) (t:TypeId) (hg:w.heap[g]?=some (.cells cur t (0,0))) (cs:List Value) (hn:cs.length=Nat.min sLen dLen)
  (hsrc:∀j v,cs[j]?=some v→w.cell? (ad.add j)=some v) (hfit:0+cs.length≤cur.size) (h1:∀v∈cs,v.oneCell'=true)
  (h:K (a.put o.dst (goInt cs.length)) (w.setRow g (cur.toList.take 0++cs++cur.toList.drop (0+cs.length)).toArray)) :
  if Region.wanted o (yielded ops a.tmps)=true then Oper.wp P o a w K Q else E:=by
 rw [if_pos (by simp [Region.wanted,hgd])]
 have hrun:=run_copy_row (P:=P) w dT sT o.type elem g 0 dLen dCap ad sLen sCap cur t cs hu hsz hg hn hsrc hfit h1
 unfold Oper.wp
 simp only [execOp,ho,resolve,invoke,builtin,Sem.run_bind,Sem.run_pure,Result.andThen_ok,List.map_toArray,List.map_cons,List.map_nil,hd,hs,hrun]
 exact h
section
variable {w:World} {g bO cO bL cL:Nat} {vW:Value} {os ls:List Value} {ws:List Vw} {m:Dsk}
def forgot (m:Dsk):Dsk:={ m with row:=[] }
theorem Dk0.forgot (h:Dk0 w g bO cO bL cL vW os ls ws m) (cur:Array Value) (hc:w.heap[bL]?=some (.cells cur 71 (0,0))) (hcs:cur.size=cL) (hcl:m.out.length≤cL) (hcm:cL≤maxLen) :
  Dk0 ((w.setCell ⟨g,2,none⟩ (.slice none 0 0)).drew.setRow bL (cur.toList.take 0++os++cur.toList.drop (0+os.length)).toArray) g bO cO bL cL (.slice none 0 0) os os [] (forgot m) ∧
  Chg (foot g bO bL vW) (foot g bO bL (.slice none 0 0)) w ((w.setCell ⟨g,2,none⟩ (.slice none 0 0)).drew.setRow bL (cur.toList.take 0++os++cur.toList.drop (0+os.length)).toArray):=by
 have hbL:(w.setCell ⟨g,2,none⟩ (.slice none 0 0)).drew.heap[bL]?=some (.cells cur 71 (0,0)):=(heap_setCell_other _ _ _ _ (Ne.symm h.ne_gL)).trans hc
 have hrow:=setRow_heap _ bL cur (cur.toList.take 0++os++cur.toList.drop (0+os.length)).toArray _ _ hbL
 have hoth:∀k,k≠g→k≠bL→((w.setCell ⟨g,2,none⟩ (.slice none 0 0)).drew.setRow bL (cur.toList.take 0++os++cur.toList.drop (0+os.length)).toArray).heap[k]?=w.heap[k]?:=fun k h1 h2=>
  (setRow_other _ _ _ _ h2).trans (heap_setCell_other _ _ _ _ h1)
 have hsz:w.heap.size≤((w.setCell ⟨g,2,none⟩ (.slice none 0 0)).drew.setRow bL (cur.toList.take 0++os++cur.toList.drop (0+os.length)).toArray).heap.size:=by
  rw [setRow_size];show _≤(w.setCell _ _).heap.size;simp
 have hgg:((w.setCell ⟨g,2,none⟩ (.slice none 0 0)).drew.setRow bL (cur.toList.take 0++os++cur.toList.drop (0+os.length)).toArray).heap[g]?=some (.cells #[.slice (some ⟨bO,0,none⟩) m.out.length cO,.slice (some ⟨bL,0,none⟩) m.out.length cL,.slice none 0 0,.int .i64 m.fuse,.bool m.down,.int .i64 (m.done:Int)] 89 (0,0)):=
  (setRow_other _ _ _ _ h.ne_gL).trans (heap_setCell_same w g 2 _ _ (.slice none 0 0) h.hd)
 have ho1:((w.setCell ⟨g,2,none⟩ (.slice none 0 0)).drew.setRow bL (cur.toList.take 0++os++cur.toList.drop (0+os.length)).toArray).os=w.os:=rfl
 have ho2:((w.setCell ⟨g,2,none⟩ (.slice none 0 0)).drew.setRow bL (cur.toList.take 0++os++cur.toList.drop (0+os.length)).toArray).tape=w.tape:=rfl
 have ho3:((w.setCell ⟨g,2,none⟩ (.slice none 0 0)).drew.setRow bL (cur.toList.take 0++os++cur.toList.drop (0+os.length)).toArray).output=w.output:=rfl
 generalize (w.setCell ⟨g,2,none⟩ (.slice none 0 0)).drew.setRow bL (cur.toList.take 0++os++cur.toList.drop (0+os.length)).toArray=W at *
 have hol:os.length=m.out.length:=h.so.len
 have hC:Chg [g,bL] [g,bL] w W:=⟨ho1,ho2,ho3,hsz,fun k _ hk=>hoth k (fun e=>hk (by simp [e])) (fun e=>hk (by simp [e])),fun _ h=>.inl h⟩
 have hT:Typed w [g,bL]:=fun k hk=>by
  simp at hk
  rcases hk with rfl | rfl
  ·exact⟨_,_,_,h.hd,.inl rfl⟩
  ·exact⟨_,_,_,hc,.inr (.inl rfl)⟩
 refine⟨⟨hgg,own_other h.ro (fun k hk=>?_),⟨by rw [hol];exact(Nat.mul_one _).symm,.inr ⟨bL,cL,_,rfl,Nat.zero_le _,hrow,hcl,hcm,?_,?_⟩⟩,World.ownsRow_nil _ _ _ _,h.so.chg hC hT,h.so.chg hC hT,Vws.nil_ _,fun _=>rfl,h.ne,⟨h.ok.out,fun x hx=>(by cases hx),h.ok.fuse0,h.ok.fuse1⟩⟩,?_⟩
 ·cases hk;exact hoth _ (Ne.symm h.ne_gO) h.ne
 ·simp only [List.take_zero,List.nil_append,List.size_toArray,List.length_append,List.length_drop,Array.length_toList,hol];omega
 ·simp only [List.take_zero,List.nil_append]
  rw [show (Go.Proofs.YtmbecjlioogbhaaGreatDoor.forgot m).out.length*1=os.length by rw [hol];exact Nat.mul_one _]
  rw [List.take_append_of_le_length (Nat.le_refl _),List.take_of_length_le (Nat.le_refl _)]
 ·exact⟨ho1,ho2,ho3,hsz,fun k _ hk=>hoth k (fun e=>hk (by simp [foot,e])) (fun e=>hk (by simp [foot,e])),fun k hk=>.inl (by simp [foot,Value.ownBlock] at hk ⊢;rcases hk with h | h | h <;> simp [h])⟩
theorem info71:(Tryz.prog.info? 71).map (fun i=>(i.zero,i.size,i.bytes))=some (some (.slice none 0 0),1,24):=by kernel_rfl
set_option maxHeartbeats 800000 in
theorem forget_any (h:Dk0 w g bO cO bL cL vW os ls ws m)  :
  Calls Tryz.prog 45 #[.pointer (some ⟨g,0,none⟩)] w fun e w'=>e = .returned (.tuple #[])∧Dk0 w' g bO cO bL cL (.slice none 0 0) os os [] (forgot m)∧Chg (foot g bO bL vW) (foot g bO bL (.slice none 0 0)) w w':=by
 obtain⟨cur,hcur,hcs,hcl,hcm⟩:∃cur,w.heap[bL]?=some (.cells cur 71 (0,0))∧cur.size=cL∧m.out.length≤cL∧cL≤maxLen:=by
  rcases h.rl.2 with ⟨e,_⟩ | ⟨g',cap,cur,e,_,hh,h1,h2,h3,_⟩
  ·cases e
  ·cases e;exact⟨cur,hh,by omega,h1,h2⟩
 have HX:=Lib.hid (h.forgot cur hcur hcs hcl hcm)
 have hc0:=h.c0
 have hc1:=h.c1
 have hc2:=h.c2
 have hf2:=h.fz 2
 have hol:os.length=m.out.length:=h.so.len
 have HB:Hid ((w.setCell ⟨g,2,none⟩ (.slice none 0 0)).drew.heap[bL]?=some (.cells cur 71 (0,0))):=Lib.hid ((heap_setCell_other _ _ _ _ (Ne.symm h.ne_gL)).trans hcur)
 have HS:Hid (∀j v,os[j]?=some v→(w.setCell ⟨g,2,none⟩ (.slice none 0 0)).drew.cell? ((⟨bO,0,none⟩:Addr).add j)=some v):=Lib.hid (fun j v hv=>by
  rw [Go.WideShapes.add_plain,Nat.zero_add]
  have hj:j<os.length:=by
   rcases Nat.lt_or_ge j os.length with h1 | h1
   ·exact h1
   ·rw [List.getElem?_eq_none h1] at hv;cases hv
  exact(World.cell?_setCell_far _ _ _ _ h.ne_gO).trans ((h.ro.cellAt j (by omega)).trans hv))
 have HO:=Lib.hid h.so.one
 have HN:Hid (os.length=Nat.min m.out.length m.out.length):=Lib.hid (by rw [hol];exact(Nat.min_self _).symm)
 have HF:Hid (0+os.length≤cur.size):=Lib.hid (by omega)
 have hinf:Hid ((Tryz.prog.info? 71).map (·.size)=some 1):=Lib.hid (by kernel_rfl)
 clear h hcur hcs hcl hcm hol
 generalize m.out.length=n at *
 go_enter Tryz.func45,Tryz.ntmps45
 go_wp2_with fail
 go_region_law (refine step_copy_at rfl (.tmp 8) (.tmp 12) 86 86 rfl 71 Tryz.underlying86 hinf.out bL _ _ ⟨bO,0,none⟩ _ _ (by rfl) (by rfl) cur 71 HB.out os HN.out HS.out HF.out HO.out ?_)
 all_goals go_end0
 all_goals exact⟨rfl,(by have:=HX.out;simp only [List.take_zero,List.nil_append,Nat.zero_add] at this;exact this)⟩
end
end
section
open Go.RowKit
def mkf (m:Dsk) (f:Nat→Option Nat) (k:Nat):Dsk:={ m with out:=failN m.row m.out f k }
section
variable {w:World} {g bO cO bL cL:Nat} {vW:Value} {os ls:List Value} {ws:List Vw} {m:Dsk}
theorem bring_step {f:Nat→Option Nat} {k a:Nat} (h:Dk0 w g bO cO bL cL vW os ls ws (mkf m f k)) (hk:k<m.row.length) (hf:f k=some a) (ha:a≤128) (hl:m.row.length≤4611686018427387904) (A:Int) (HA:Hid ((a:Int)=A)) :
  Calls Tryz.prog 44 #[.pointer (some ⟨g,0,none⟩),.int .i64 (k:Int),.int .i64 A] w fun e w'=>e = .returned (.tuple #[])∧∃os',Stays g bO cO bL cL vW os' ls ws (mkf m f (k+1)) w w':=by
 rw [←HA.out]
 refine(bringOut_any h k a hk ha hl).mono ?_
 rintro e w' ⟨rfl,v,hs⟩
 have e:mkf m f (k+1)=brung (mkf m f k) k (some a):=by
  show ({ m with out:=bring (failN m.row m.out f k) (wr m.row k) (f k) }:Dsk)=_
  rw [hf];rfl
 rw [←e] at hs
 exact⟨rfl,_,hs⟩
theorem Stays.trans {w w1 w2:World} {os1 os2:List Value} {m1 m2:Dsk} (h:Stays g bO cO bL cL vW os1 ls ws m1 w w1) (k:Stays g bO cO bL cL vW os2 ls ws m2 w1 w2):Stays g bO cO bL cL vW os2 ls ws m2 w w2:=⟨k.1,h.2.trans k.2⟩
theorem Dk0.wslice (h:Dk0 w g bO cO bL cL vW os ls ws m) (n:Nat) (hn:Hid (m.row.length=n)):∃(q:Option Addr) (c:Nat),vW = .slice q n c:=by
 rw [←hn.out]
 rcases h.rw_.2 with ⟨e,h0⟩ | ⟨g',cap,cur,e,_⟩
 ·exact⟨none,0,by rw [e,h0]⟩
 ·exact⟨_,_,e⟩
def all128 (_:Nat):Option Nat:=some 128
end
end
section
set_option maxRecDepth 20000
open Go.RowKit
section
variable {w:World} {g bO cO bL cL:Nat} {vW:Value} {os ls:List Value} {ws:List Vw} {m:Dsk}
end
end
section
set_option maxRecDepth 20000
open Go.RowKit
section
variable {w:World} {g bO cO bL cL:Nat} {vW:Value} {os ls:List Value} {ws:List Vw} {m:Dsk}
set_option maxHeartbeats 400000 in
theorem read_bad (h:Dk0 w g bO cO bL cL vW os ls ws m) (i:Int) (hE:readE m i≠0) :
  Calls Tryz.prog 127 #[.pointer (some ⟨g,0,none⟩),.int .i64 i] w fun e w'=>e = .returned (.tuple #[.string (strB (readS m i)),.int .i64 (readE m i)])∧w=w':=by
 have HS:Hid (strB (readS m i)=⟨#[]⟩):=Lib.hid (by
  unfold readE at hE
  unfold readS
  split
  ·rfl
  ·split
   ·rfl
   ·rename_i h1 h2
    rw [if_neg h1,if_neg h2] at hE
    exact absurd rfl hE)
 have HR:=Lib.hid (reach_any h i)
 rw [HS.out]
 generalize readE m i=E at *
 have hd:(E != 0)=true:=by simpa using hE
 clear h hE
 go_enter Tryz.func127,Tryz.ntmps127
 go_wp2_with (go_at_call 163;refine HR.out.mono ?_;rintro e w' ⟨rfl,rfl⟩)
 go_ret2
 exact⟨rfl,rfl⟩
set_option maxHeartbeats 400000 in
theorem read_good (h:Dk0 w g bO cO bL cL vW os ls ws m) (k:Nat) (hd:m.down=false) (hk:k<m.out.length) :
  Calls Tryz.prog 127 #[.pointer (some ⟨g,0,none⟩),.int .i64 (k:Int)] w fun e w'=>e = .returned (.tuple #[.string (strB (sec m.last k)),.int .i64 0])∧w=w':=by
 have hE:readE m (k:Int)=0:=by unfold readE;rw [if_neg (by simp [hd]),if_neg (by rw [has_true (by omega) (by omega)];simp)]
 have hr:=reach_any h (k:Int)
 rw [hE] at hr
 have HR:=Lib.hid hr
 have hc1:=h.c1
 have hs:=h.sl.at_ k (by rw [last_len];exact hk)
 obtain⟨b,c,e,hB,_⟩:=hs.bys
 have hc:=h.rl.cellAt k (by omega)
 rw [vAt_get (by rw [h.sl.len,last_len];exact hk),e] at hc
 have hconv:=hB.conv c
 have hkl:(k:Int)<(m.out.length:Int):=by omega
 clear h hE hr hs hB e
 generalize sec m.last k=s at *
 generalize m.out.length=n at *
 go_enter Tryz.func127,Tryz.ntmps127
 go_wp2_with (go_at_call 163;refine HR.out.mono ?_;rintro e w' ⟨rfl,rfl⟩)
 go_ret2
 exact⟨rfl,rfl⟩
theorem read_any (h:Dk0 w g bO cO bL cL vW os ls ws m) (i:Int) :
  Calls Tryz.prog 127 #[.pointer (some ⟨g,0,none⟩),.int .i64 i] w fun e w'=>e = .returned (.tuple #[.string (strB (readS m i)),.int .i64 (readE m i)])∧w=w':=by
 by_cases hE:readE m i=0
 ·have hd:m.down=false:=by
   cases hd:m.down with
   | false=>rfl
   | true=>unfold readE at hE;rw [if_pos hd] at hE;omega
  have hh:m.has i=true:=by
   cases hh:m.has i with
   | true=>rfl
   | false=>unfold readE at hE;rw [if_neg (by simp [hd]),if_pos hh] at hE;omega
  have h0:=hh
  unfold Dsk.has at h0
  simp only [Bool.and_eq_true,decide_eq_true_eq] at h0
  obtain⟨k,rfl⟩:=Int.eq_ofNat_of_zero_le h0.1
  rw [hE,show readS m (k:Int)=sec m.last k by unfold readS;rw [if_neg (by simp [hd]),if_neg (by simp [hh])];rfl]
  exact read_good h k hd (by omega)
 ·exact read_bad h i hE
end
end
section
open Go.RowKit
theorem strB_size (bs:List Nat):(strB bs).size=bs.length:=by
 have h:=congrArg List.length (strOfNums_data (bs.map Int.ofNat))
 simp only [List.length_map] at h
 unfold strB
 rw [←h];rfl
theorem strB_get (bs:List Nat) (k:Nat) (hk:k<bs.length):(strB bs).data[k]?=some (UInt8.ofNat (bs.getD k 0)):=by
 have h:=strOfNums_data (bs.map Int.ofNat)
 unfold strB
 rw [←Array.getElem?_toList,h,List.getD_eq_getElem?_getD]
 simp [hk]
theorem sec_bytes (w:World) (s:List Nat) (cap:Nat) (hs:s.length=128) (hd:∀d∈s,d<256) (h1:128≤cap) (h2:cap≤9223372036854775807) (fr:Nat × Nat) :
  Sec (w.alloc (.cells (bytesRow (strB s) cap) 5 fr)) (.slice (some ⟨w.heap.size,0,none⟩) 128 cap) s:=by
 refine⟨_,_,_,_,rfl,heap_alloc_new w _,hs,hd,fun i hi=>?_,h1,h2⟩
 unfold bytesRow
 have hsz:((strB s).data.map (fun b=>Value.int .u8 (b.toNat:Int))).size=128:=by
  rw [Array.size_map];exact(strB_size s).trans hs
 rw [Array.getElem?_append_left (by rw [hsz];exact hi),Array.getElem?_map,strB_get s i (by omega)]
 have h3:s.getD i 0<256:=by
  rw [List.getD_eq_getElem?_getD,List.getElem?_eq_getElem (by omega)]
  exact hd _ (List.getElem_mem _)
 simp only [Option.map_some]
 rw [UInt8.toNat_ofNat_of_lt' h3]
section
variable {w w3:World} {g bO cO bL cL:Nat} {vW:Value} {os ls:List Value} {ws:List Vw} {m:Dsk}
theorem Dk0.put (h:Dk0 w g bO cO bL cL vW os ls ws m) {i:Nat} {s:List Nat} {v:Value} (hi:i<m.out.length) (hs:Sec w v s) {gN cap:Nat} {o:Obj}
  (hown:w3.ownsRow 0 151 2 (.slice (some ⟨gN,0,none⟩) (m.row.length+1) cap) (m.row.length+1) (flat ws++[.int .i64 (i:Int),v]))
  (hgrow:(w.drew.alloc o).grownBy w3 vW.ownBlock) (hat:vW.ownBlock=some gN∨w.heap.size≤gN) :
  Dk0 ((w3.setCell ⟨g,2,none⟩ (.slice (some ⟨gN,0,none⟩) (m.row.length+1) cap)).setCell ⟨bL,i,none⟩ v) g bO cO bL cL (.slice (some ⟨gN,0,none⟩) (m.row.length+1) cap) os (ls.set i v) (ws++[(i,v)]) { m with row:=m.row++[(i,s)] } ∧
   Chg (foot g bO bL vW) (foot g bO bL (.slice (some ⟨gN,0,none⟩) (m.row.length+1) cap)) w ((w3.setCell ⟨g,2,none⟩ (.slice (some ⟨gN,0,none⟩) (m.row.length+1) cap)).setCell ⟨bL,i,none⟩ v):=by
 have hO:bO<w.heap.size:=by obtain⟨cur,hc⟩:=own_head h.ro rfl;exact lt_of_block hc
 have hL:bL<w.heap.size:=by obtain⟨cur,hc⟩:=own_head h.rl rfl;exact lt_of_block hc
 have hgN:gN≠g∧gN≠bO∧gN≠bL:=by
  rcases hat with e | e
  ·exact⟨Ne.symm (h.ne_gW _ e),Ne.symm (h.ne_OW _ e),Ne.symm (h.ne_LW _ e)⟩
  ·have:=h.lt;exact⟨by omega,by omega,by omega⟩
 have hsz:w.heap.size≤w3.heap.size:=Nat.le_trans (by show _≤(w.drew.alloc o).heap.size;simp) hgrow.size
 have h3:∀k,k<w.heap.size→vW.ownBlock≠some k→w3.heap[k]?=w.heap[k]?:=fun k hk hne=>
  (hgrow.block k (by show _<(w.drew.alloc o).heap.size;simp;omega) (fun e=>hne e.symm)).trans (Below.heap_alloc w.drew o k hk)
 have hhd:w3.heap[g]?=w.heap[g]?:=h3 g h.lt (fun e=>h.ne_gW g e rfl)
 have hC:Chg vW.ownBlock.toList vW.ownBlock.toList w w3:=⟨hgrow.os,hgrow.tape,hgrow.output,hsz,fun k hk hne=>h3 k hk (fun e=>hne (by simp [e])),fun _ h=>.inl h⟩
 have hT:Typed w vW.ownBlock.toList:=fun k hk=>by
  obtain⟨cur,hc⟩:=own_head h.rw_ (by simpa using hk);exact⟨_,_,_,hc,.inr (.inr rfl)⟩
 have h4:w3.ownsRow 0 71 1 (.slice (some ⟨bO,0,none⟩) m.out.length cO) m.out.length os:=own_other h.ro (fun k hk=>by cases hk;exact h3 bO hO (fun e=>h.ne_OW bO e rfl))
 have h5:w3.ownsRow 0 71 1 (.slice (some ⟨bL,0,none⟩) m.out.length cL) m.out.length ls:=own_other h.rl (fun k hk=>by cases hk;exact h3 bL hL (fun e=>h.ne_LW bL e rfl))
 have hgg:=heap_setCell_same w3 g 2 _ _ (.slice (some ⟨gN,0,none⟩) (m.row.length+1) cap) (hhd.trans h.hd)
 have hS2:∀k,k≠g→(w3.setCell ⟨g,2,none⟩ (.slice (some ⟨gN,0,none⟩) (m.row.length+1) cap)).heap[k]?=w3.heap[k]?:=fun k hk=>heap_setCell_other _ _ _ _ hk
 have hsz4:(w3.setCell ⟨g,2,none⟩ (.slice (some ⟨gN,0,none⟩) (m.row.length+1) cap)).heap.size=w3.heap.size:=by simp
 have hC4:Chg (vW.ownBlock.toList++[g]) (vW.ownBlock.toList++[g]) w (w3.setCell ⟨g,2,none⟩ (.slice (some ⟨gN,0,none⟩) (m.row.length+1) cap)):=
  ⟨hC.os,hC.tape,hC.output,by rw [hsz4];exact hsz,fun k hk hne=>(hS2 k (fun e=>hne (by simp [e]))).trans (hC.block k hk (fun e=>hne (by simp at e ⊢;exact .inl e))),fun _ h=>.inl h⟩
 have hT4:Typed w (vW.ownBlock.toList++[g]):=fun k hk=>by
  rcases List.mem_append.1 hk with hk | hk
  ·exact hT k hk
  ·obtain rfl:=List.mem_singleton.1 hk;exact⟨_,_,_,h.hd,.inl rfl⟩
 generalize w3.setCell ⟨g,2,none⟩ (.slice (some ⟨gN,0,none⟩) (m.row.length+1) cap)=w4 at *
 have h6:w4.ownsRow 0 71 1 (.slice (some ⟨bL,0,none⟩) m.out.length cL) m.out.length ls:=own_other h5 (fun k hk=>by cases hk;exact hS2 bL (Ne.symm h.ne_gL))
 have hS5:∀k,k≠bL→(w4.setCell ⟨bL,i,none⟩ v).heap[k]?=w4.heap[k]?:=fun k hk=>heap_setCell_other _ _ _ _ hk
 have hC5:Chg (bL :: (vW.ownBlock.toList++[g])) (bL :: (vW.ownBlock.toList++[g])) w (w4.setCell ⟨bL,i,none⟩ v):=
  ⟨hC4.os,hC4.tape,hC4.output,by rw [show (w4.setCell ⟨bL,i,none⟩ v).heap.size=w4.heap.size by simp];exact hC4.size,fun k hk hne=>(hS5 k (fun e=>hne (by simp [e]))).trans (hC4.block k hk (fun e=>hne (by simp at e ⊢;exact .inr e))),fun _ h=>.inl h⟩
 have hT5:Typed w (bL :: (vW.ownBlock.toList++[g])):=fun k hk=>by
  rcases List.mem_cons.1 hk with rfl | hk
  ·obtain⟨cur,hc⟩:=own_head h.rl rfl;exact⟨_,_,_,hc,.inr (.inl rfl)⟩
  ·exact hT4 k hk
 have hlast:Dsk.last { m with row:=m.row++[(i,s)] }=m.last.set i s:=appAll_snoc _ _ _
 have hr:=(h6.stored i v).1
 refine⟨⟨(hS5 g h.ne_gL).trans hgg,own_other h4 (fun k hk=>?_),hr,?_,h.so.chg hC5 hT5,?_,(h.sw.snoc i hs).chg hC5 hT5,fun e=>?_,h.ne,⟨h.ok.out,fun x hx=>?_,h.ok.fuse0,h.ok.fuse1⟩⟩,?_⟩
 ·cases hk;exact(hS5 bO h.ne).trans (hS2 bO (Ne.symm h.ne_gO))
 ·show World.ownsRow _ 0 151 2 _ (m.row++[(i,s)]).length _
  rw [List.length_append,flat_snoc]
  exact own_other hown (fun k hk=>by cases hk;exact(hS5 gN hgN.2.2).trans (hS2 gN hgN.1))
 ·rw [hlast];exact(h.sl.set (by rw [last_len];exact hi) hs).chg hC5 hT5
 ·simp at e
 ·rcases List.mem_append.1 hx with hx | hx
  ·exact h.ok.row x hx
  ·obtain rfl:=List.mem_singleton.1 hx;exact⟨hi,hs.len,hs.dig⟩
 ·refine⟨hC5.os,hC5.tape,hC5.output,hC5.size,fun k hk hne=>hC5.block k hk (fun e=>hne ?_),fun k hk=>?_⟩
  ·simp [foot] at e ⊢
   rcases e with e | e | e
   ·exact .inr (.inr (.inl e))
   ·exact .inr (.inr (.inr e))
   ·exact .inl e
  ·simp [foot,Value.ownBlock] at hk ⊢
   rcases hk with e | e | e | e
   ·exact .inl (.inl e)
   ·exact .inl (.inr (.inl e))
   ·exact .inl (.inr (.inr (.inl e)))
   ·subst e
    rcases hat with e | e
    ·exact .inl (.inr (.inr (.inr e)))
    ·exact .inr e
end
end
end Go.Proofs.YtmbecjlioogbhaaGreatDoor
