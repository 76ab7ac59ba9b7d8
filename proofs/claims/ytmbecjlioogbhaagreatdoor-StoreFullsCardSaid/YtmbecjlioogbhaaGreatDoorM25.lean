/- Texts YSure to YPageD of this seat, laid into one. -/
import Derived.Deep.RegionHeldLaw
import Derived.Deep.RegionHeld3
import Derived.Deep.Cut
import Derived.Deep.CutBlock
import Derived.Deep.DeepCutAuto
import Derived.Deep.RegionLaw
import Derived.Deep.AppendLies
import Derived.Test.YtmbecjlioogbhaaGreatDoorM12
import Derived.Test.YtmbecjlioogbhaaGreatDoorM13
import Derived.Test.YtmbecjlioogbhaaGreatDoorM14
import Derived.Test.YtmbecjlioogbhaaGreatDoorM15
import Derived.Test.YtmbecjlioogbhaaGreatDoorM23
import Derived.Test.YtmbecjlioogbhaaGreatDoorM24
set_option linter.unusedVariables false
set_option linter.unusedSimpArgs false
set_option linter.constructorNameAsVariable false
namespace Go.Proofs.YtmbecjlioogbhaaGreatDoor
section
set_option maxRecDepth 20000
open Go.RowKit
section
variable {w w':World} {d sg pg k g mb n:Nat} {D G:List Nat} {m:Dsk} {s:Sp} {y:Xv} {v:Value} {F:Nat→Nat}
theorem Sto.pts (h:Sto w d sg D G m s pg y k g mb v n F):∃p c,v = .slice p n c∧PtsR w p n (partAt F):=by
 obtain⟨p,c,rfl,hp⟩:=h.st.own.form
 refine⟨p,c,rfl,fun i hi=>?_⟩
 obtain⟨b,rfl,hb,hc⟩:=hp (by omega)
 refine⟨b,rfl,hb,?_⟩
 show w.rangeAt b (i*129) (partL (F (i*129)) fun j=>F (i*129+1+j))
 rw [partL_ints]
 exact range_of_cells hc (by have:=Nat.mul_le_mul_right 129 (show i+1≤n by omega);omega)
set_option maxHeartbeats 3200000 in
theorem Sto.sure (h:Sto w d sg D G m s pg y k g mb v n F) (hF:∀j,j<n*129→F j≤1099511627776) (hh:y.now 0=pageT (headB n fun i=>F (i*129))) (i:Nat) (hi9:i≤1099511627776) (hp:i<n*128→thX y.now ((F (i / 128*129):Nat):Int)=true∧y.now (F (i / 128*129))=partB F (i / 128)) :
  Calls Tryz.prog 99 #[.pointer (some ⟨g,0,none⟩),.int .i64 ((i:Int)+1)] w fun e w'=>e = .returned (.int .i64 0)∧Below w.heap.size w w':=by
 have c1:=h.st.c1
 obtain⟨p,c,rfl,hpts⟩:=h.pts
 have h64:=h.st.n64
 have hth0:thX y.now 0=true:=by
  rw [show (0:Int)=((0:Nat):Int) from rfl,th_nat (by omega),nn_iff,hh]
  exact head_ne _ _
 have hHD:=headText_any p n c (partAt F) w h64 hpts (fun i hi=>hF _ (by omega))
 have HHD:Hid (Calls Tryz.prog 63 #[.slice p n c] w fun e w'=>e = .returned (.string (strB (pageT (headB n fun i=>F (i*129)))))∧Below w.heap.size w w'):=Lib.hid hHD
 have hIs:IsS (strB (pageT (headB n fun i=>F (i*129)))) (pageT (headB n fun i=>F (i*129))):=IsS.mk_ _ (pageT_dig (headB_dig n _))
 have HSA:Hid (∀w1,Below w.heap.size w w1→Calls Tryz.prog 62 #[.pointer (some ⟨g,0,none⟩),.int .i64 0,.string (strB (pageT (headB n fun i=>F (i*129))))] w1 fun e w'=>e = .returned (.int .i64 0)∧Below w.heap.size w w'):=Lib.hid fun w1 hb=>by
  have h1:=(h.below hb).same 0 (by omega) (by omega) _ _ hIs
  rw [show sameE y 0 (pageT (headB n fun i=>F (i*129)))=0 from if_pos ⟨hth0,hh⟩] at h1
  exact h1.mono fun e w' h=>⟨h.1,hb.trans (h.2.mono hb.size)⟩
 have HLP:Hid (∀w1,Below w.heap.size w w1→Calls Tryz.prog 98 #[.pointer (some ⟨g,0,none⟩),.int .i64 ((i:Int)+1)] w1 fun e w'=>e = .returned (.bool (decide ((n:Int)*128<(i:Int)+1)))∧w1=w'):=Lib.hid fun w1 hb=>(h.below hb).st.lacksPart _
 have H:=Lib.hid h
 have HFF:=Lib.hid hF
 have HP:=Lib.hid hp
 have HPL:Hid (∀w1,Calls Tryz.prog 113 #[.int .i64 ((i:Int)+1)] w1 fun e w'=>e = .returned (.tuple #[.int .i64 ((i / 128:Nat):Int),.int .i64 ((i % 128:Nat):Int)])∧w1=w'):=Lib.hid fun w1=>placeOf_any i w1 hi9
 clear h hF hh hp hpts hHD hIs hth0
 generalize strB (pageT (headB n fun i=>F (i*129)))=TH at *
 by_cases hl:i<n*128
 case neg=>
  have hd:decide ((n:Int)*128<(i:Int)+1)=true:=decide_eq_true (by omega)
  rw [hd] at HLP
  clear hl hd HFF HP HPL H h64
  obtain⟨I,hI⟩:∃I:Int,(i:Int)+1=I:=⟨_,rfl⟩
  rw [hI] at HLP ⊢
  clear hI hi9
  go_enter Tryz.func99,Tryz.ntmps99
  go_wp2_with (first
   | (go_at_call 63;with_reducible refine HHD.out.mono ?_;rintro e w1 ⟨rfl,hb1⟩)
   | (go_at_call 62;with_reducible refine(HSA.out _ hb1).mono ?_;rintro e w2 ⟨rfl,hb2⟩)
   | (go_at_call 98;with_reducible refine(HLP.out _ hb2).mono ?_;rintro e w3 ⟨rfl,rfl⟩))
  go_ret
  exact⟨rfl,hb2⟩
 case pos=>
  have hd:decide ((n:Int)*128<(i:Int)+1)=false:=decide_eq_false (by omega)
  rw [hd] at HLP
  obtain⟨hth,hpg⟩:=HP.out hl
  have hq1:i / 128<n:=by omega
  have hq1I:((i / 128:Nat):Int)<(n:Int):=by omega
  have hq0I:(0:Int)≤((i / 128:Nat):Int):=by omega
  have h64I:(n:Int)≤64:=by omega
  obtain⟨p2,c2,e2,hce0⟩:=H.out.st.own.form
  cases e2
  obtain⟨b,rfl,hbl,-⟩:=hce0 (by omega)
  obtain⟨q,hq⟩:∃q,i / 128=q:=⟨_,rfl⟩
  rw [hq] at hth hpg hq1 hq1I hq0I HPL
  have hin:q*129+129≤n*129:=by have:=Nat.mul_le_mul_right 129 (show q+1≤n by omega);omega
  have HRD:Hid (∀w2,Below w.heap.size w w2→w2.cell? ⟨g,1,none⟩=some (.slice (some ⟨b,0,none⟩) n c)∧w2.cell? ⟨b,q*129,none⟩=some (.int .i64 ((F (q*129):Nat):Int))∧w2.rangeAt b (q*129) (Tb.ints F (q*129) 129)):=Lib.hid fun w2 hb=>by
   have h2:=H.out.below hb
   obtain⟨p2,c2,e2,hp2⟩:=h2.st.own.form
   cases e2
   obtain⟨b2,e3,-,hce⟩:=hp2 (by omega)
   cases e3
   exact⟨h2.st.c1,hce _ (by omega),range_of_cells hce hin⟩
  have HPT:Hid (∀w2,Calls Tryz.prog 114 #[.agg (Tb.ints F (q*129) 129).toArray] w2 fun e w'=>e = .returned (.string (strB (partB F q)))∧Below w2.heap.size w2 w'):=Lib.hid fun w2=>by
   have:=partText_any (F (q*129)) (fun j=>F (q*129+1+j)) w2 (fun j hj=>HFF.out _ (by omega))
   rw [partL_ints] at this
   exact this
  have HS2:Hid (∀w1,Below w.heap.size w w1→Calls Tryz.prog 62 #[.pointer (some ⟨g,0,none⟩),.int .i64 ((F (q*129):Nat):Int),.string (strB (partB F q))] w1 fun e w'=>e = .returned (.int .i64 0)∧Below w.heap.size w w'):=Lib.hid fun w1 hb=>by
   have hfl:=HFF.out (q*129) (by omega)
   have h1:=(H.out.below hb).same ((F (q*129):Nat):Int) (by omega) (by omega) _ _ (IsS.mk_ _ (partB_ok F q).2)
   rw [show sameE y ((F (q*129):Nat):Int) (partB F q)=0 from if_pos ⟨hth,by rw [Int.toNat_natCast];exact hpg⟩] at h1
   exact h1.mono fun e w' h=>⟨h.1,hb.trans (h.2.mono hb.size)⟩
  have HSR:Hid ((Tryz.prog.info? 82).map (·.size)=some (Tb.ints F (q*129) 129).length):=Lib.hid (by rw [sizePart,Tb.ints_len])
  obtain⟨I,hI⟩:∃I:Int,(i:Int)+1=I:=⟨_,rfl⟩
  rw [hI] at HLP HPL ⊢
  obtain⟨R,hR⟩:∃R,i % 128=R:=⟨_,rfl⟩
  rw [hR] at HPL
  clear hI hi9 hR hq hl hd hth hpg HP hce0 hbl HFF hin h64
  generalize strB (partB F q)=T at *
  obtain⟨pgn,hpgn⟩:∃p,F (q*129)=p:=⟨_,rfl⟩
  rw [hpgn] at HS2 HRD
  clear hpgn H
  go_enter Tryz.func99,Tryz.ntmps99
  go_upto_region 5 with (first
   | (go_at_call 63;with_reducible refine HHD.out.mono ?_;rintro e w1 ⟨rfl,hb1⟩)
   | (go_at_call 62;with_reducible refine(HSA.out _ hb1).mono ?_;rintro e w2 ⟨rfl,hb2⟩;have HB2:=Lib.hid hb2)
   | (go_at_call 98;with_reducible refine(HLP.out _ hb2).mono ?_;rintro e w3 ⟨rfl,rfl⟩)
   | (go_at_call 113;with_reducible refine(HPL.out _).mono ?_;rintro e w3 ⟨rfl,rfl⟩))
  obtain⟨a1,a2,a3⟩:w2.drew.cell? ⟨g,1,none⟩=some (.slice (some ⟨b,0,none⟩) n c)∧w2.drew.cell? ⟨b,q*129,none⟩=some (.int .i64 (pgn:Int))∧w2.drew.rangeAt b (q*129) (Tb.ints F (q*129) 129):=HRD.out w2.drew HB2.out.drew
  clear c1 hb2
  generalize Tb.ints F (q*129) 129=Y at *
  refine wp_region_held_drew (S:=(fun u:World=>u.cell? ⟨g,1,none⟩=some (.slice (some ⟨b,0,none⟩) n c)∧u.cell? ⟨b,q*129,none⟩=some (.int .i64 (pgn:Int))∧u.rangeAt b (q*129) Y)) (by kernel_rfl) ⟨a1,a2,a3⟩ (fun hHeld=>?_)
  refine wpAnyH_take (i:=0) (v:=?_) rfl (by kernel_rfl) (by kernel_rfl) (by kernel_rfl) (fun _ _ _ h=>h) (Or.inl ⟨by rfl,?_⟩) (by assumption) ?_
  rotate_left
  ·intro w hSw
   try dsimp only at hSw
   go_simp
   try with_reducible rfl
  try simp only [Act.put,List.setIfInBounds_toArray,List.set_cons_zero,List.set_cons_succ]
  refine wpAnyH_take (i:=1) (v:=?_) rfl (by kernel_rfl) (by kernel_rfl) (by kernel_rfl) (fun _ _ _ h=>h) (Or.inl ⟨by rfl,?_⟩) (by assumption) ?_
  rotate_left
  ·intro w hSw
   try dsimp only at hSw
   go_simp
   try with_reducible rfl
  try simp only [Act.put,List.setIfInBounds_toArray,List.set_cons_zero,List.set_cons_succ]
  refine wpAnyH_take (i:=2) (v:=?_) rfl (by kernel_rfl) (by kernel_rfl) (by kernel_rfl) (fun _ _ _ h=>h) (Or.inl ⟨by rfl,?_⟩) (by assumption) ?_
  rotate_left
  ·intro w hSw
   try dsimp only at hSw
   go_simp
   try with_reducible rfl
  try simp only [Act.put,List.setIfInBounds_toArray,List.set_cons_zero,List.set_cons_succ]
  refine wpAnyH_take (i:=3) (v:=?_) rfl (by kernel_rfl) (by kernel_rfl) (by kernel_rfl) (fun _ _ _ h=>h) (Or.inl ⟨by rfl,?_⟩) (by assumption) ?_
  rotate_left
  ·intro w hSw
   try dsimp only at hSw
   go_simp
   try with_reducible rfl
  try simp only [Act.put,List.setIfInBounds_toArray,List.set_cons_zero,List.set_cons_succ]
  refine wpAnyH_take (i:=4) (v:=?_) rfl (by kernel_rfl) (by kernel_rfl) (by kernel_rfl) (fun _ _ _ h=>h) (Or.inl ⟨by rfl,?_⟩) (by assumption) ?_
  rotate_left
  ·intro w hSw
   try dsimp only at hSw
   go_simp
   try with_reducible rfl
  try simp only [Act.put,List.setIfInBounds_toArray,List.set_cons_zero,List.set_cons_succ]
  refine wpAnyH_take (i:=5) (v:=?_) rfl (by kernel_rfl) (by kernel_rfl) (by kernel_rfl) (fun _ _ _ h=>h) (Or.inl ⟨by rfl,?_⟩) (by assumption) ?_
  rotate_left
  ·intro w hSw
   try dsimp only at hSw
   go_simp
   try with_reducible rfl
  try simp only [Act.put,List.setIfInBounds_toArray,List.set_cons_zero,List.set_cons_succ]
  refine wpAnyH_take (i:=6) (v:=?_) rfl (by kernel_rfl) (by kernel_rfl) (by kernel_rfl) (fun _ _ _ h=>h) (Or.inl ⟨by rfl,?_⟩) (by assumption) ?_
  rotate_left
  ·intro w hSw
   try dsimp only at hSw
   go_simp
   try with_reducible rfl
  try simp only [Act.put,List.setIfInBounds_toArray,List.set_cons_zero,List.set_cons_succ]
  refine wpAnyH_take (i:=7) (v:=?_) rfl (by kernel_rfl) (by kernel_rfl) (by kernel_rfl) (fun _ _ _ h=>h) (Or.inl ⟨by rfl,?_⟩) (by assumption) ?_
  rotate_left
  ·intro w hSw
   try dsimp only at hSw
   go_simp
   try with_reducible rfl
  try simp only [Act.put,List.setIfInBounds_toArray,List.set_cons_zero,List.set_cons_succ]
  refine wpAnyH_take (i:=8) (v:=?_) rfl (by kernel_rfl) (by kernel_rfl) (by kernel_rfl) (fun _ _ _ h=>h) (Or.inl ⟨by rfl,?_⟩) (by assumption) ?_
  rotate_left
  ·intro w hSw
   try dsimp only at hSw
   go_simp
   try with_reducible rfl
  try simp only [Act.put,List.setIfInBounds_toArray,List.set_cons_zero,List.set_cons_succ]
  refine wpAnyH_take (i:=9) (v:=?_) rfl (by kernel_rfl) (by kernel_rfl) (by kernel_rfl) (fun _ _ _ h=>h) (Or.inl ⟨by rfl,?_⟩) (by assumption) ?_
  rotate_left
  ·intro w hSw
   try dsimp only at hSw
   go_simp
   try with_reducible rfl
  try simp only [Act.put,List.setIfInBounds_toArray,List.set_cons_zero,List.set_cons_succ]
  refine wpAnyH_take (i:=10) (v:=?_) rfl (by kernel_rfl) (by kernel_rfl) (by kernel_rfl) (fun _ _ _ h=>h) (Or.inl ⟨by rfl,?_⟩) (by assumption) ?_
  rotate_left
  ·intro w hSw
   try dsimp only at hSw
   go_simp
   try with_reducible rfl
  try simp only [Act.put,List.setIfInBounds_toArray,List.set_cons_zero,List.set_cons_succ]
  refine wpAnyH_take (i:=11) (v:=?_) rfl (by kernel_rfl) (by kernel_rfl) (by kernel_rfl) (fun _ _ _ h=>h) (Or.inl ⟨by rfl,?_⟩) (by assumption) ?_
  rotate_left
  ·intro w hSw
   try dsimp only at hSw
   go_simp
   try with_reducible rfl
  try simp only [Act.put,List.setIfInBounds_toArray,List.set_cons_zero,List.set_cons_succ]
  refine wpAnyH_take (i:=12) (v:=?_) rfl (by kernel_rfl) (by kernel_rfl) (by kernel_rfl) (fun _ _ _ h=>h) (Or.inl ⟨by rfl,?_⟩) (by assumption) ?_
  rotate_left
  ·intro w hSw
   try dsimp only at hSw
   go_simp
   try with_reducible rfl
  try simp only [Act.put,List.setIfInBounds_toArray,List.set_cons_zero,List.set_cons_succ]
  refine wpAnyH_take (i:=13) (v:=?_) rfl (by kernel_rfl) (by kernel_rfl) (by kernel_rfl) (fun _ _ _ h=>h) (Or.inl ⟨by rfl,?_⟩) (by assumption) ?_
  rotate_left
  ·intro w hSw
   try dsimp only at hSw
   go_simp
   try with_reducible rfl
  try simp only [Act.put,List.setIfInBounds_toArray,List.set_cons_zero,List.set_cons_succ]
  refine wpAnyH_take (i:=14) (v:=?_) rfl (by kernel_rfl) (by kernel_rfl) (by kernel_rfl) (fun _ _ _ h=>h) (Or.inl ⟨by rfl,?_⟩) (by assumption) ?_
  rotate_left
  ·intro w hSw
   try dsimp only at hSw
   go_simp
   try with_reducible rfl
  try simp only [Act.put,List.setIfInBounds_toArray,List.set_cons_zero,List.set_cons_succ]
  refine wpAnyH_take (i:=15) (oi:={ dst:=some 43,op:=Op.load 82 (Operand.tmp 42),type:=82,pos:="pages.go:47",after:=#[{ on:=14,ground:=Ground.data }],guard:=none }) (v:=.agg Y.toArray) (by kernel_rfl) (by kernel_rfl) (by kernel_rfl) (by kernel_rfl) (fun _ _ _ h=>h) (yieldsIf_load_mid (by kernel_rfl) 82 (.tmp 42) rfl b (q*129) (by kernel_rfl) Y _ (fun w h=>h.2.2) Tryz.underlying82 rfl HSR.out) (by assumption) ?_
  try simp only [Act.put,List.setIfInBounds_toArray,List.set_cons_zero,List.set_cons_succ]
  refine wpAnyH_ready (rs:=[16]) (by kernel_rfl) (by simp) ?_
  refine AllReadyH.cons rfl (fun K hK=>?_) AllReadyH.nil
  go_simp
  go_wp2_with ((go_at_call 114;refine(HPT.out _).mono ?_;rintro e w5 ⟨rfl,hb5⟩;have hk5:Below w.heap.size w w5:=HB2.out.trans (((Below.refl _ _).drew.trans hb5).mono HB2.out.size);have hS5:=HRD.out w5 hk5))
  refine hK.out _ _ hS5 (fun hHeld=>?_)
  clear hK K
  refine wpAnyH_ready (rs:=[17]) (by kernel_rfl) (by simp) ?_
  refine AllReadyH.cons rfl (fun K hK=>?_) AllReadyH.nil
  go_simp
  go_wp2_with (go_at_call 62;with_reducible refine(HS2.out _ hk5).mono ?_;rintro e w6 ⟨rfl,hb6⟩;have HB6:=Lib.hid hb6;have hS6:=HRD.out w6 hb6)
  refine hK.out _ _ hS6 (fun hHeld=>?_)
  clear hK K
  refine wpAnyH_ready (rs:=[18]) (by kernel_rfl) (by simp) ?_
  refine AllReadyH.cons rfl (fun K hK=>?_) AllReadyH.nil
  go_simp
  go_wp2_with fail
  refine hK.out _ _ hS6 (fun hHeld=>?_)
  clear hK K
  refine wpAnyH_done (by kernel_rfl) ?_ _
  go_wp2_with fail
  go_ret
  exact⟨rfl,HB6.out⟩
end
end
section
set_option maxRecDepth 20000
open Go.RowKit
theorem two_at (f:Nat→Nat):∀(n i:Nat),i<n→((twoB f n).drop (i*2)).take 2=be 2 (f i)
 | 0,i,h=>absurd h (Nat.not_lt_zero i)
 | n+1,i,h=>by
  show ((twoB f n++be 2 (f n)).drop (i*2)).take 2=_
  have hl:=twoB_len f n
  by_cases e:i<n
  ·rw [List.drop_append_of_le_length (by omega),List.take_append_of_le_length (by rw [List.length_drop];omega)]
   exact two_at f n i e
  ·obtain rfl:i=n:=by omega
   rw [List.drop_append,List.drop_of_length_le (by omega),List.nil_append,hl,show i*2 - 2*i=0 by omega,List.drop_zero,List.take_of_length_le (by rw [be_len];omega)]
theorem pgs_back {l:List Nat} (h:∀x∈l,x<65536):pgsL (pgB l) l.length=l:=by
 refine List.ext_getElem? fun i=>?_
 unfold pgsL
 rw [List.getElem?_map]
 by_cases hi:i<l.length
 ·rw [List.getElem?_range hi,List.getElem?_eq_getElem hi]
  show some (cutV (pgB l) 2 i)=_
  unfold cutV pgB
  rw [two_at _ _ _ hi]
  have e:l.getD i 0=l[i]:=by rw [List.getD_eq_getElem?_getD,List.getElem?_eq_getElem hi];rfl
  rw [e,val_be 2 l[i] (h _ (List.getElem_mem hi))]
 ·rw [List.getElem?_eq_none (by simp;omega),List.getElem?_eq_none (by omega)];rfl
theorem rec_short (d:List Nat):recB d []=0 :: d:=if_pos rfl
theorem rec_long {d ps:List Nat} (h:ps≠[]):recB d ps=1 :: (be 4 d.length++pgB ps):=by
 unfold recB;rw [if_neg h];simp
theorem rec_len {d ps:List Nat} (ht:ThOk d ps):(recB d ps).length=recordSizeN d.length:=by
 unfold recB recordSizeN
 have h2:=ht.2.2
 by_cases e:ps=[]
 ·rw [if_pos e]
  rw [e] at h2
  rw [if_neg (by rw [←h2];decide)]
  simp;omega
 ·rw [if_neg e]
  have h0:0<ps.length:=by
   cases ps with
   | nil=>exact absurd rfl e
   | cons a b=>simp
  rw [if_pos (by omega),←h2]
  simp [be_len,pgB_len];omega
theorem th_short {d ps:List Nat} (ht:ThOk d ps):ps=[]↔d.length≤479:=by
 have h2:=ht.2.2
 unfold pagesForN at h2
 constructor
 ·intro e
  rw [e] at h2
  split at h2
  ·assumption
  ·simp at h2;omega
 ·intro e
  rw [if_pos e] at h2
  exact List.eq_nil_of_length_eq_zero h2
theorem rec_dig {d ps:List Nat} (ht:ThOk d ps):∀x∈recB d ps,x<256:=fun x hx=>by
 by_cases e:ps=[]
 ·rw [e,rec_short] at hx
  rcases List.mem_cons.1 hx with h | h
  ·omega
  ·exact ht.2.1 x h
 ·rw [rec_long e] at hx
  rcases List.mem_cons.1 hx with h | h
  ·omega
  ·rcases List.mem_append.1 h with h | h
   ·exact be_dig _ _ x h
   ·exact pgB_dig _ x h
theorem rec_size {d ps:List Nat} (ht:ThOk d ps):(strB (recB d ps)).size≤480:=by
 rw [strB_size,rec_len ht]
 have:=ht.1
 unfold recordSizeN pagesForN
 split <;> split at * <;> omega
theorem rec_told {d ps:List Nat} (ht:ThOk d ps) (h:ps≠[]) (hp:∀x∈ps,x<65536):lngN (recB d ps)=d.length∧lngOk (recB d ps)=true∧pgsL ((recB d ps).drop 5) (pagesForN d.length)=ps:=by
 have h479:479<d.length:=Nat.lt_of_not_le fun e=>h ((th_short ht).2 e)
 have h1:=ht.1
 have hN:lngN (recB d ps)=d.length:=by
  unfold lngN
  rw [rec_long h,List.drop_one,List.tail_cons,List.take_append_of_le_length (by rw [be_len];omega),List.take_of_length_le (by rw [be_len];omega)]
  exact val_be 4 d.length (by omega)
 have hl:=rec_len ht
 refine⟨hN,?_,?_⟩
 ·unfold lngOk
  rw [hN,decide_eq_true h479,decide_eq_true h1,decide_eq_true hl,decide_eq_true (by rw [rec_long h];simp [be_len])]
  rfl
 ·have e:(recB d ps).drop 5=pgB ps:=by
   rw [rec_long h,List.drop_succ_cons,List.drop_append,List.drop_of_length_le (by rw [be_len];omega),be_len]
   simp
  rw [e,←ht.2.2]
  exact pgs_back hp
theorem join_chk (ds:List Nat):∀m,512*m≤ds.length→joinB (chkB ds) m=ds.take (512*m)
 | 0,_=>rfl
 | m+1,h=>by
  show joinB (chkB ds) m++chkB ds m=_
  rw [join_chk ds m (by omega),chk_full (by omega),show 512*(m+1)=512*m+512 by omega,List.take_add]
theorem join_all {ds:List Nat} (h:0<ds.length):joinB (chkB ds) ((ds.length+511) / 512)=ds++List.replicate (512*((ds.length+511) / 512) - ds.length) 0:=by
 obtain⟨m,hm⟩:∃m,(ds.length+511) / 512=m+1:=⟨(ds.length - 1) / 512,by omega⟩
 rw [hm]
 show joinB (chkB ds) m++chkB ds m=_
 rw [join_chk ds m (by omega),chk_last (by omega)]
 unfold pageT
 rw [←List.append_assoc,List.take_append_drop,List.length_drop]
 congr 2
 omega
theorem zerosB_rep (k:Nat):zerosB (List.replicate k 0)=true:=by
 unfold zerosB
 rw [List.all_eq_true]
 intro x hx
 rw [List.eq_of_mem_replicate hx];rfl
theorem join_told {d ps:List Nat} (ht:ThOk d ps) (h:ps≠[]):(joinB (chkB d) ps.length).length=512*ps.length∧(joinB (chkB d) ps.length).take d.length=d∧zerosB ((joinB (chkB d) ps.length).drop d.length)=true∧d.length≤512*ps.length∧512*ps.length≤d.length+512∧ps.length≤32:=by
 have h479:479<d.length:=Nat.lt_of_not_le fun e=>h ((th_short ht).2 e)
 have h1:=ht.1
 have hl:ps.length=(d.length+511) / 512:=by
  have:=ht.2.2
  unfold pagesForN at this
  rw [if_neg (by omega)] at this
  exact this
 have hj:=join_all (ds:=d) (by omega)
 rw [hl,hj]
 refine⟨?_,?_,?_,by omega,by omega,by omega⟩
 ·simp;omega
 ·rw [List.take_append_of_le_length (Nat.le_refl _),List.take_length]
 ·rw [List.drop_append_of_le_length (Nat.le_refl _),List.drop_length,List.nil_append]
  exact zerosB_rep _
theorem chk_dig {ds:List Nat} (hd:∀x∈ds,x<256) (i:Nat):∀x∈chkB ds i,x<256:=pageT_dig fun x hx=>hd x (List.mem_of_mem_drop (List.mem_of_mem_take hx))
theorem chk_ne (ds:List Nat) (i:Nat):chkB ds i≠[]:=fun e=>by
 have h:(chkB ds i).length=512:=by
  unfold chkB
  exact pageT_len (by rw [List.length_take];omega)
 rw [e] at h;cases h
theorem chk_len (ds:List Nat) (i:Nat):(chkB ds i).length=512:=pageT_len (by rw [List.length_take];omega)
end
section
namespace Sl
open Go.RowKit
theorem infoI:(Tryz.prog.info? 3).map (fun i=>(i.zero,i.size,i.bytes))=some (some (.int .i64 0),1,8):=by kernel_rfl
def rowI (S:ByteArray) (c k:Nat):List Value:=(List.range c).map fun j=>Value.int .i64 (if j<k then (szA S j:Int) else 0)
theorem rowI_len (S:ByteArray) (c k:Nat):(rowI S c k).length=c:=by simp [rowI]
theorem rowI_get (S:ByteArray) (c k j:Nat) (h:j<c):(rowI S c k)[j]?=some (.int .i64 (if j<k then (szA S j:Int) else 0)):=by
 unfold rowI;rw [List.getElem?_map,List.getElem?_range h];rfl
theorem rowI_set (S:ByteArray) (c k:Nat) (h:k<c):(rowI S c k).set k (.int .i64 (szA S k:Int))=rowI S c (k+1):=by
 apply List.ext_getElem?
 intro j
 rw [List.getElem?_set]
 rcases Nat.lt_or_ge j c with hj | hj
 ·rw [rowI_get _ _ _ _ hj,rowI_get _ _ _ _ hj]
  split
  ·rename_i e;subst e;rw [if_pos (by rw [rowI_len];exact h),if_pos (by omega)]
  ·rename_i e
   congr 2
   by_cases h1:j<k
   ·rw [if_pos h1,if_pos (by omega)]
   ·rw [if_neg h1,if_neg (by omega)]
 ·rw [List.getElem?_eq_none (by rw [rowI_len];exact hj),List.getElem?_eq_none (by rw [rowI_len];exact hj)]
  split
  ·omega
  ·rfl
theorem rowI_zero (S:ByteArray) (c:Nat):(madeCells #[Value.int .i64 0] c).toList=rowI S c 0:=by
 rw [toList_madeCells_one]
 apply List.ext_getElem?
 intro j
 rcases Nat.lt_or_ge j c with hj | hj
 ·rw [rowI_get _ _ _ _ hj,List.getElem?_replicate,if_pos hj];rfl
 ·rw [List.getElem?_eq_none (by simpa using hj),List.getElem?_eq_none (by rw [rowI_len];exact hj)]
structure Szs (w wr:World) (S:ByteArray) (b c k:Nat):Prop where
 below:Below w.heap.size w wr
 row:wr.ownsRow 0 3 1 (.slice (some ⟨b,0,none⟩) c c) c (rowI S c k)
 high:w.heap.size≤b
theorem plus_or (a b:Nat) (h:b<256):a*256 ||| b=a*256+b:=by
 have:=Nat.two_pow_add_eq_or_of_lt (i:=8) h a
 rw [show (2:Nat) ^ 8=256 from rfl,Nat.mul_comm 256 a] at this
 exact this.symm
theorem or_byte0 (m c:Nat) (hm:m<256) (hc:c<256):bits .or .i64 (IntKind.i64.wrap ((m:Int)*256)) (c:Int)=((m*256+c:Nat):Int):=by
 show IntKind.i64.wrap ((BitVec.ofInt 64 (IntKind.i64.wrap ((m:Int)*256)) ||| BitVec.ofInt 64 (c:Int)).toNat:Int)=_
 have e1:(BitVec.ofInt 64 (IntKind.i64.wrap ((m:Int)*256))).toNat=m*256:=by
  rw [BitVec.toNat_ofInt,IntKind.wrap_i64]
  omega
 have e2:(BitVec.ofInt 64 (c:Int)).toNat=c:=by
  rw [BitVec.toNat_ofInt]
  omega
 rw [BitVec.toNat_or,e1,e2,plus_or m c hc,IntKind.wrap_i64]
 omega
theorem or_byte (m c:Nat) (hm:m<256) (hc:c<256):bits .or .i64 ((m:Int)*256) (c:Int)=((m*256+c:Nat):Int):=by
 have:=or_byte0 m c hm hc
 rwa [show IntKind.i64.wrap ((m:Int)*256)=(m:Int)*256 by rw [IntKind.wrap_i64];omega] at this
theorem or_byte2 (m c:Nat) (hm:m<256) (hc:c<256):bits .or .i64 (wrap64 ((m:Int)*256)) (c:Int)=((m*256+c:Nat):Int):=by
 rw [show wrap64 ((m:Int)*256)=IntKind.i64.wrap ((m:Int)*256) by unfold wrap64;exact(IntKind.wrap_i64 _).symm]
 exact or_byte0 m c hm hc
theorem sizes_bad (S:ByteArray) (w:World) (hS:S.size=512) (h64:64<cntA S):Calls Tryz.prog 196 #[.string S] w fun e w'=>
  e = .returned (.tuple #[.slice none 0 0,.bool false])∧Below w.heap.size w w':=by
 obtain⟨c,HC⟩:∃c,Hid (cntA S=c):=⟨_,Lib.hid rfl⟩
 have h0:∀w,(Instr.index 9 (.string S) (.int .i64 0)).run Tryz.prog w = .ok (.int .u8 (c:Int)) w:=by rw [←HC.out];exact index_any S 0 (by omega)
 have hc:c≤255:=by have:=byteAt_lt S 0;have h2:=HC.out;unfold cntA at h2;omega
 rw [HC.out] at h64
 have hd:decide ((64:Int)<(c:Int))=true:=by simp;omega
 go_enter Tryz.func196,Tryz.ntmps196
 go_wp2_with fail
 go_ret2
 exact⟨rfl,Below.refl _ _⟩
theorem Szs.drew {w wr:World} {S:ByteArray} {b c k:Nat} (h:Szs w wr S b c k):Szs w wr.drew S b c k:=⟨h.below.drew,h.row.drew,h.high⟩
theorem Szs.drewN {w wr:World} {S:ByteArray} {b c k:Nat} (h:Szs w wr S b c k) (n:Nat):Szs w (wr.drewN n) S b c k:=⟨h.below.trans ⟨rfl,rfl,rfl,Nat.le_refl _,fun _ _=>rfl⟩,h.row,h.high⟩
set_option maxHeartbeats 1600000 in
theorem sizes_any (S:ByteArray) (w:World) (hS:S.size=512) (h64:¬ 64<cntA S):Calls Tryz.prog 196 #[.string S] w fun e w'=>
  (∃b,e = .returned (.tuple #[.slice (some ⟨b,0,none⟩) (cntA S) (cntA S),.bool (!decide (0<cntA S∧szA S (cntA S - 1)=0))])∧Szs w w' S b (cntA S) (cntA S)):=by
 obtain⟨c,HC⟩:∃c,Hid (cntA S=c):=⟨_,Lib.hid rfl⟩
 have h0:∀w,(Instr.index 9 (.string S) (.int .i64 0)).run Tryz.prog w = .ok (.int .u8 (c:Int)) w:=by rw [←HC.out];exact index_any S 0 (by omega)
 have HIX:Hid (∀i:Nat,i<512→∀w,(Instr.index 9 (.string S) (.int .i64 (i:Int))).run Tryz.prog w = .ok (.int .u8 (byteAt S i:Int)) w):=Lib.hid (fun i hi=>index_any S i (by omega))
 rw [HC.out] at h64 ⊢
 have hd:decide ((64:Int)<(c:Int))=false:=by simp;omega
 have hc:c≤64:=by omega
 obtain⟨i0,hi,hz0,hz1,hz2⟩:=info_parts infoI
 have HI:=Lib.hid hi
 have HZ0:=Lib.hid hz0
 have HZ1:=Lib.hid hz1
 have HZ2:=Lib.hid hz2
 clear hi hz0 hz1 hz2
 have H63:Hid (c≤maxLen):=Lib.hid (by unfold maxLen;omega)
 have HBY:Hid (i0.bytes*c≤281474976710656):=Lib.hid (by rw [HZ2.out];omega)
 have HBH:Hid (∀n:Nat,n≤64→∀w,Calls Tryz.prog 197 #[.int .i64 (n:Int)] w fun e w'=>e = .returned (.int .i64 (1+(n:Int)*2))∧w=w'):=Lib.hid (fun n hn w=>behind_any n w (by omega))
 go_enter Tryz.func196,Tryz.ntmps196
 go_wp2_with (refine wpList_make_full _ rfl _ _ 47 rfl w.heap.size 3 i0 (.int .i64 0) 1 Tryz.underlying47 HI.out HZ0.out HZ1.out .i64 .i64 _ _ c rfl rfl rfl rfl HBY.out H63.out (Nat.le_refl _) ?_;intro w1 hown hgrow;have HS0:Hid (Szs w w1 S w.heap.size c 0):=Lib.hid ⟨(Below.refl _ _).grown hgrow (Nat.le_refl _) (fun k e=>by cases e),by simp only [Value.cells,Nat.mul_one] at hown;rw [rowI_zero S c] at hown;exact base0 hown,Nat.le_refl _⟩;clear hown hgrow)
 generalize hb:w.heap.size=b at *
 clear h0 hd
 go_loopw [6,7,17] (fun _ _ iv wr=>∃j:Nat,j≤c∧iv = .int .i64 (j:Int)∧Hid (Szs w wr S b c j)) (fun _ _ iv _=>c - (RowKit.intOf iv).toNat)
 case atStart=>exact⟨0,Nat.zero_le _,by go_num,HS0⟩
 case round=>
  obtain⟨j,hj,rfl,hr⟩:=hrel
  clear HS0
  by_cases hlt:j<c
  ·have HB1:=Lib.hid (HBH.out j (by omega))
   obtain⟨p,HP⟩:∃p:Nat,Hid (p=1+2*j):=⟨_,Lib.hid rfl⟩
   have hp:p≤129:=by have:=HP.out;omega
   have x1:=HIX.out p (by omega)
   have x2:=HIX.out (p+1) (by omega)
   rw [Int.natCast_add,Int.natCast_one] at x2
   have hb1:=byteAt_lt S p
   have hb2:=byteAt_lt S (p+1)
   have HSZ:Hid (szA S j=byteAt S p*256+byteAt S (p+1)):=Lib.hid (by unfold szA;rw [HP.out,show 1+2*j+1=2+2*j by omega])
   have hcell:=hr.out.row.cellAt j (by omega)
   have hfz:=hr.out.row.frozenAt j
   rw [rowI_get _ _ _ _ hlt] at hcell
   have hs:=(hr.out.row.stored j (.int .i64 (szA S j:Int))).1
   rw [rowI_set _ _ _ hlt] at hs
   have HR:Hid (Szs w (wr.setCell ⟨b,j,none⟩ (.int .i64 (szA S j:Int))) S b c (j+1)):=Lib.hid ⟨hr.out.below.setCell (p:=⟨b,j,none⟩) hr.out.high _,hs,hr.out.high⟩
   rw [HSZ.out] at HR
   rw [Int.natCast_add,Int.natCast_mul] at HR
   generalize byteAt S p=m at *
   generalize byteAt S (p+1)=n at *
   have hor:=or_byte m n hb1 hb2
   have hor2:=or_byte2 m n hb1 hb2
   have HPI:Hid ((1:Int)+(j:Int)*2=(p:Int)):=Lib.hid (by rw [HP.out];omega)
   have hjc:(j:Int)<(c:Int):=by omega
   clear HIX hs hr HBH
   go_wp2_with (go_at_call 197;refine(HB1.out _).mono ?_;rintro e w1 ⟨rfl,rfl⟩;rw [HPI.out])
   go_region
   all_goals
    go_wp2_with fail
    go_roundw
    case rel=>exact⟨j+1,by omega,by go_num,by first | exact HR | exact Lib.hid HR.out.drew⟩
    case measure=>simp [RowKit.intOf];omega
  ·obtain rfl:j=c:=by omega
   have HBL:Hid (Below w.heap.size w wr):=Lib.hid hr.out.below
   have HRR:=hr
   rcases Nat.eq_zero_or_pos j with h0 | h0
   ·subst h0
    have hd:decide ((0:Int)=0)=true:=rfl
    go_wp2_with fail
    go_quiet (fail)
    go_wp2_with fail
    go_ret2
    exact⟨_,rfl,HRR.out.drewN _⟩
   ·have hd:((j:Int) == 0)=false:=by simp;omega
    have hcell:=hr.out.row.cellAt (j - 1) (by omega)
    rw [rowI_get _ _ _ _ (by omega)] at hcell
    go_wp2_with fail
    go_quiet (fail)
    go_wp2_with fail
    go_ret2
    refine⟨_,?_,HRR.out.drewN _⟩
    have e1:(!decide (0<j∧szA S (j - 1)=0))=decide (0<szA S (j - 1)):=by
     by_cases h2:szA S (j - 1)=0
     ·rw [h2];simp [h0]
     ·have h3:0<szA S (j - 1):=by omega
      simp [h2,h3]
    rw [e1]
    rfl
end Sl
end
section
namespace Sl
open Go.RowKit
theorem parse_no1 {S:ByteArray} (h:64<cntA S):parseM S=none:=by unfold parseM;rw [if_pos h]
theorem parse_no2 {S:ByteArray} (h:0<cntA S∧szA S (cntA S - 1)=0):parseM S=none:=by
 unfold parseM
 split
 ·rfl
 ·cases goF S (cntA S) with
  | none=>rfl
  | some x=>obtain⟨l,a⟩:=x;simp only [if_pos h]
theorem parse_no3 {S:ByteArray} {k:Nat} (h:goF S k=none) (hk:k≤cntA S):parseM S=none:=by
 unfold parseM
 rw [goF_none h _ hk]
 split <;> rfl
theorem parse_at {S:ByteArray} {l:List Sl} {a:Nat} (h:goF S (cntA S)=some (l,a)) (h1:¬ 64<cntA S) (h2:¬ (0<cntA S∧szA S (cntA S - 1)=0)):parseM S=if zeroB S a=true then some l else none:=by
 unfold parseM
 rw [if_neg h1,h]
 simp only
 rw [if_neg h2]
def slO (S:ByteArray) (s a:Nat):Sl:=if s=0 then none else some (S.extract a (a+(s - 1)))
theorem slO_some (S:ByteArray) (s a:Nat):(slO S s a).isSome=decide (0<s):=by
 unfold slO;split
 ·rename_i h;simp [h]
 ·rename_i h;simp;omega
theorem slO_rec (S:ByteArray) (s a:Nat):recOf (slO S s a)=S.extract a (a+(s - 1)):=by
 unfold slO;split
 ·rename_i h;subst h
  apply nums_inj
  rw [nums_extract,Nat.zero_sub,Nat.add_zero,Nat.sub_self,List.take_zero];rfl
 ·rfl
theorem goS_eq (S:ByteArray) (s:Nat) (l:List Sl) (a:Nat):goS S s l a=if 480<s - 1∨512 - a<s - 1 then none else some (l++[slO S s a],a+(s - 1)):=by
 unfold goS slO
 split
 ·rename_i h;subst h;rw [if_neg (by omega)];rfl
 ·rfl
theorem ext_ext (S:ByteArray) (a n:Nat) (h:a+n≤512):(S.extract a 512).extract 0 n=S.extract a (a+n):=by
 apply nums_inj
 rw [nums_extract,nums_extract,nums_extract,List.drop_zero,Nat.sub_zero,List.take_take,Nat.add_sub_cancel_left,Nat.min_eq_left (by omega)]
theorem ext_drop (S:ByteArray) (a n:Nat) (hS:S.size=512) (h:a+n≤512):(S.extract a 512).extract n (S.extract a 512).size=S.extract (a+n) 512:=by
 rw [extract_size S a 512 (by omega) (by omega)]
 apply nums_inj
 rw [nums_extract,nums_extract,nums_extract,List.drop_take,List.drop_drop,List.take_take,show 512 - a - n=512 - (a+n) by omega,Nat.min_self]
theorem allZ_zeroB (S:ByteArray) (a:Nat) (hS:S.size=512) (ha:a≤512):allZ (S.extract a 512)↔zeroB S a=true:=by
 have hsz:=extract_size S a 512 ha (by omega)
 have hl:(nums S).length=512:=by rw [nums_len,hS]
 unfold allZ zeroB
 rw [hsz]
 constructor
 ·intro h
  rw [List.all_eq_true]
  intro x hx
  obtain⟨j,hj,e⟩:=List.getElem_of_mem hx
  rw [List.length_drop,hl] at hj
  have h1:=h j hj
  rw [byteAt_extract S a 512 j hj] at h1
  unfold byteAt at h1
  rw [List.getElem_drop] at e
  rw [List.getD_eq_getElem?_getD,List.getElem?_eq_getElem (by omega)] at h1
  simp only [Option.getD_some] at h1
  simp;omega
 ·intro h j hj
  rw [byteAt_extract S a 512 j hj]
  unfold byteAt
  rw [List.getD_eq_getElem?_getD,List.getElem?_eq_getElem (by omega)]
  simp only [Option.getD_some]
  have h1:=List.all_eq_true.1 h ((nums S)[a+j]'(by omega)) (by
   rw [←List.getElem_drop (h:=by rw [List.length_drop,hl];omega)]
   exact List.getElem_mem _)
  simpa using h1
theorem parseE_no {S:ByteArray} (hS:S.size=512) (h:parseM S=none):parseE S=4:=by
 unfold parseE;rw [if_neg (by omega),if_neg (by omega),h];rfl
theorem parseE_ok {S:ByteArray} (hS:S.size=512) {l:List Sl} (h:parseM S=some l):parseE S=0:=by
 unfold parseE;rw [if_neg (by omega),if_neg (by omega),h];rfl
structure PRes (w w':World) (S:ByteArray) (p:Value):Prop where
 ok:parseE S=0→∃l g F,p = .pointer (some ⟨g,0,none⟩)∧parseM S=some l∧Pg w' g F l∧(∀k∈F,w.heap.size≤k)
 no:parseE S≠0→p = .pointer none
 below:Below w.heap.size w w'
theorem PRes.none_ {w w':World} {S:ByteArray} (h:parseE S≠0) (hb:Below w.heap.size w w'):PRes w w' S (.pointer none):=⟨fun e=>absurd e h,fun _=>rfl,hb⟩
structure Pl (w wr:World) (S:ByteArray) (b c g:Nat) (v:Value) (l:List Sl):Prop where
 below:Below w.heap.size w wr
 row:wr.ownsRow 0 3 1 (.slice (some ⟨b,0,none⟩) c c) c (rowI S c c)
 page:Pgr wr g v l
 high:w.heap.size≤g
 vhigh:∀k,v.ownBlock=some k→w.heap.size≤k
theorem Pgr.snocO {w w3:World} {g gN cap:Nat} {v:Value} {l:List Sl} {ob:Obj} {o:Sl} (h:Pgr w g v l)
  (hown:w3.ownsRow 0 216 2 (.slice (some ⟨gN,0,none⟩) (l.length+1) cap) (l.length+1) (flat l++[.bool o.isSome,.string (recOf o)]))
  (hgrow:(w.alloc ob).grownBy w3 v.ownBlock) (hat:v.ownBlock=some gN∨gN=w.heap.size+1) :
  Pgr (w3.setCell ⟨g,0,none⟩ (.slice (some ⟨gN,0,none⟩) (l.length+1) cap)) g (.slice (some ⟨gN,0,none⟩) (l.length+1) cap) (l++[o]) ∧
   Chg (foot g v) (foot g (.slice (some ⟨gN,0,none⟩) (l.length+1) cap)) w (w3.setCell ⟨g,0,none⟩ (.slice (some ⟨gN,0,none⟩) (l.length+1) cap)):=by
 have hglt:g<w.heap.size:=lt_of_block h.hd
 have hgN:gN≠g:=by
  rcases hat with e | e
  ·exact h.ne _ e
  ·omega
 have hsz:w.heap.size≤w3.heap.size:=Nat.le_trans (by simp) hgrow.size
 have h3:∀k,k<w.heap.size→v.ownBlock≠some k→w3.heap[k]?=w.heap[k]?:=fun k hk hne=>
  (hgrow.block k (by simp;omega) (fun e=>hne e.symm)).trans (Below.heap_alloc w ob k hk)
 refine⟨⟨heap_setCell_same w3 g 0 _ _ _ ((h3 g hglt (fun e=>h.ne g e rfl)).trans h.hd),?_⟩,⟨hgrow.os,hgrow.tape,hgrow.output,by simpa using hsz,fun k hk hne=>?_,fun k hk=>?_⟩⟩
 ·rw [List.length_append,flat_append,flat_one]
  exact own_other hown (fun k hk=>by cases hk;exact heap_setCell_other _ _ _ _ hgN)
 ·have h1:k≠g:=fun e=>hne (by simp [foot,e])
  have h2:v.ownBlock≠some k:=fun e=>hne (by simp [foot,e])
  exact(heap_setCell_other _ _ _ _ h1).trans (h3 k hk h2)
 ·simp only [foot,List.mem_cons,Option.mem_toList] at hk ⊢
  rcases hk with e | e
  ·exact .inl (.inl e)
  ·have e2:gN=k:=by simpa [Value.ownBlock] using e
   subst e2
   rcases hat with e3 | e3
   ·exact .inl (.inr e3)
   ·exact .inr (by omega)
theorem Pgr.typed {w:World} {g:Nat} {v:Value} {l:List Sl} (h:Pgr w g v l):Typed w (foot g v):=by
 intro k hk
 unfold foot at hk
 simp only [List.mem_cons,Option.mem_toList] at hk
 rcases hk with rfl | hk
 ·exact⟨_,_,_,h.hd,.inl rfl⟩
 ·obtain⟨cur,hc⟩:=own_head h.row hk;exact⟨_,_,_,hc,.inr rfl⟩
theorem Pl.snoc {w wr w3:World} {S:ByteArray} {b c g gN cap:Nat} {v:Value} {l:List Sl} {ob:Obj} {o:Sl} (h:Pl w wr S b c g v l)
  (hown:w3.ownsRow 0 216 2 (.slice (some ⟨gN,0,none⟩) (l.length+1) cap) (l.length+1) (flat l++[.bool o.isSome,.string (recOf o)]))
  (hgrow:(wr.alloc ob).grownBy w3 v.ownBlock) (hat:v.ownBlock=some gN∨gN=wr.heap.size+1) :
  Pl w (w3.setCell ⟨g,0,none⟩ (.slice (some ⟨gN,0,none⟩) (l.length+1) cap)) S b c g (.slice (some ⟨gN,0,none⟩) (l.length+1) cap) (l++[o]):=by
 obtain⟨h1,h2⟩:=h.page.snocO hown hgrow hat
 have hf:∀k∈foot g v,w.heap.size≤k:=fun k hk=>by
  simp only [foot,List.mem_cons,Option.mem_toList] at hk
  rcases hk with rfl | hk
  ·exact h.high
  ·exact h.vhigh k hk
 refine⟨h2.below h.below h.below.size hf,own_chg h.row h2 h.page.typed (by decide),h1,h.high,fun k hk=>?_⟩
 exact h2.high h.below.size hf k (by simp [foot,hk])
theorem empty_of {U:ByteArray} (h:U.size=0):U=⟨#[]⟩:=nums_inj (by
 have h1:(nums U).length=0:=by rw [nums_len];exact h
 rw [List.length_eq_zero_iff.1 h1];rfl)
theorem notEmpty_of {U:ByteArray} (h:U.size≠0):U.toList.isEmpty=false:=by
 rw [Go.Lib.toList_data]
 cases e:U.data.toList with
 | nil=>
  have h2:U.data.toList.length=U.size:=by rw [Array.length_toList];rfl
  rw [e] at h2
  exact absurd h2.symm h
 | cons x l=>rfl
theorem parse_short (S:ByteArray) (w:World) (hS:S.size<512):Calls Tryz.prog 154 #[.string S] w fun e w'=>∃p,e = .returned (.tuple #[p,.int .i64 (parseE S)])∧PRes w w' S p:=by
 have hE:parseE S=3:=by unfold parseE;rw [if_pos hS]
 have HR:Hid (PRes w w S (.pointer none)):=Lib.hid (PRes.none_ (by rw [hE];decide) (Below.refl _ _))
 have hd:decide ((S.size:Int)<512)=true:=by simp;omega
 rw [hE]
 go_enter Tryz.func154,Tryz.ntmps154
 go_wp2_with fail
 go_ret2
 exact⟨_,rfl,HR.out⟩
theorem parse_long (S:ByteArray) (w:World) (hS:512<S.size) (h63:S.size≤9223372036854775807):Calls Tryz.prog 154 #[.string S] w fun e w'=>∃p,e = .returned (.tuple #[p,.int .i64 (parseE S)])∧PRes w w' S p:=by
 have hE:parseE S=2:=by unfold parseE;rw [if_neg (by omega),if_pos hS]
 have HR:Hid (PRes w w S (.pointer none)):=Lib.hid (PRes.none_ (by rw [hE];decide) (Below.refl _ _))
 have hd:decide ((S.size:Int)<512)=false:=by simp;omega
 have hd2:decide ((512:Int)<(S.size:Int))=true:=by simp;omega
 rw [hE]
 go_enter Tryz.func154,Tryz.ntmps154
 go_wp2_with fail
 go_ret2
 exact⟨_,rfl,HR.out⟩
theorem parse_bad1 (S:ByteArray) (w:World) (hS:S.size=512) (h64:64<cntA S):Calls Tryz.prog 154 #[.string S] w fun e w'=>∃p,e = .returned (.tuple #[p,.int .i64 (parseE S)])∧PRes w w' S p:=by
 have hE:parseE S=4:=parseE_no hS (parse_no1 h64)
 have HR:Hid (∀w',Below w.heap.size w w'→PRes w w' S (.pointer none)):=Lib.hid (fun w' hb=>PRes.none_ (by rw [hE];decide) hb)
 have HB:=Lib.hid (sizes_bad S · hS h64)
 have HSZ:=Lib.hid hS
 rw [hE]
 go_enter Tryz.func154,Tryz.ntmps154
 go_wp2_with (go_at_call 196;refine(HB.out _).mono ?_;rintro e w1 ⟨rfl,hb⟩)
 go_ret2
 exact⟨_,rfl,HR.out _ hb⟩
theorem parse_bad2 (S:ByteArray) (w:World) (hS:S.size=512) (h64:¬ 64<cntA S) (h0:0<cntA S∧szA S (cntA S - 1)=0):Calls Tryz.prog 154 #[.string S] w fun e w'=>∃p,e = .returned (.tuple #[p,.int .i64 (parseE S)])∧PRes w w' S p:=by
 have hE:parseE S=4:=parseE_no hS (parse_no2 h0)
 have HR:Hid (∀w',Below w.heap.size w w'→PRes w w' S (.pointer none)):=Lib.hid (fun w' hb=>PRes.none_ (by rw [hE];decide) hb)
 have HB:=Lib.hid (sizes_any S · hS h64)
 rw [decide_eq_true h0,Bool.not_true] at HB
 have hd1:decide ((512:Int)<512)=false:=by decide
 rw [hE]
 go_enter Tryz.func154,Tryz.ntmps154
 go_wp2_with (go_at_call 196;refine(HB.out _).mono ?_;rintro e w1 ⟨b,rfl,hb⟩)
 go_ret2
 exact⟨_,rfl,HR.out _ hb.below⟩
end Sl
end
section
namespace Sl
open Go.RowKit
set_option maxRecDepth 20000 in
set_option maxHeartbeats 3200000 in
theorem parse_512 (S:ByteArray) (w:World) (hS:S.size=512) (h64:¬ 64<cntA S) (h0:¬ (0<cntA S∧szA S (cntA S - 1)=0)):Calls Tryz.prog 154 #[.string S] w fun e w'=>∃p,e = .returned (.tuple #[p,.int .i64 (parseE S)])∧PRes w w' S p:=by
 have HB:=Lib.hid (sizes_any S · hS h64)
 rw [decide_eq_false h0,Bool.not_false] at HB
 have HS:=Lib.hid hS
 have hd1:decide ((512:Int)<512)=false:=by decide
 obtain⟨c,HC⟩:∃c,Hid (cntA S=c):=⟨_,Lib.hid rfl⟩
 have H0:=Lib.hid h0
 have H64:=Lib.hid h64
 rw [HC.out] at HB h64
 have hc:c≤64:=by omega
 obtain⟨E,HE⟩:∃E,Hid (parseE S=E):=⟨_,Lib.hid rfl⟩
 rw [HE.out]
 have hle:(1:Int)+(c:Int)*2≤512:=by omega
 have hsl:(1:Int)+(c:Int)*2≤(S.size:Int):=by omega
 clear h64 h0
 go_enter Tryz.func154,Tryz.ntmps154
 go_wp2_with (first
  | (go_at_call 196;refine(HB.out _).mono ?_;rintro e w1 ⟨b,rfl,hb⟩;have HZ:=Lib.hid hb;clear hb)
  | (go_at_call 105;refine(new_any _).mono ?_;rintro e w2 ⟨g,F,rfl,hp,hF,hg,hbl⟩;have HP:=Lib.hid hp;have HF:=Lib.hid hF;have HG:=Lib.hid hg;have HBL:=Lib.hid hbl;clear hp hF hg hbl)
  | (go_at_call 197;refine(behind_any c _ (by omega)).mono ?_;rintro e w3 ⟨rfl,rfl⟩))
 have HPL:∃v,Hid (Pl w w2 S b c g v []):=by
  obtain⟨v,hp,hF⟩:=HP.out
  subst hF
  have hz:=HZ.out
  have hb2:=HBL.out
  have hsz:=hz.below.size
  exact⟨v,Lib.hid ⟨hz.below.trans (hb2.mono hsz),own_below hz.row hb2,hp.raw,Nat.le_trans hsz HG.out,fun k hk=>Nat.le_trans hsz (HF.out k (by simp [foot,hk]))⟩⟩
 obtain⟨v0,HPL⟩:=HPL
 have HG0:Hid (goF S 0=some ([],1+c*2)):=Lib.hid (by
  show some (([]:List Sl),1+2*cntA S)=_
  rw [HC.out,Nat.mul_comm])
 clear HZ HP HF HG HBL HB hle hsl
 go_loopw [7,9,10,34] (fun rv _ _ iv wr=>∃(k a:Nat) (l:List Sl) (v:Value),k≤c∧iv = .int .i64 (k:Int)∧rv = .string (S.extract a 512)∧Hid (goF S k=some (l,a))∧Hid (Pl w wr S b c g v l)) (fun _ _ _ iv _=>c - (RowKit.intOf iv).toNat)
 case atStart=>exact⟨0,_,[],v0,Nat.zero_le _,by go_num,rfl,HG0,HPL⟩
 case round=>
  obtain⟨k,a,l,v,hk,rfl,rfl,hgo,hpl⟩:=hrel
  clear HG0 HPL
  have h9:=go9 S HS.out (by have:=HC.out;omega) k (by have:=HC.out;omega) hgo.out
  have ha:=h9.le
  obtain⟨m,hm⟩:∃m,m+a=512:=⟨512 - a,by omega⟩
  have HRS:Hid (S.extract a 512=S.extract a 512∧(S.extract a 512).size=m):=Lib.hid ⟨rfl,by rw [extract_size S a 512 ha (by have:=HS.out;omega)];omega⟩
  have hrs:=HRS.out.2
  obtain⟨R,HR⟩:∃R,Hid (S.extract a 512=R):=⟨_,Lib.hid rfl⟩
  rw [HR.out] at hrs ⊢
  clear HRS
  by_cases hlt:k<c
  ·have hcell:=hpl.out.row.cellAt k (by omega)
   rw [rowI_get _ _ _ _ hlt,if_pos hlt] at hcell
   have HSK:Hid (goF S (k+1)=goS S (szA S k) l a):=Lib.hid (goF_some hgo.out)
   have hs64:=szA_le S k
   generalize szA S k=s at *
   have hkc:(k:Int)<(c:Int):=by omega
   obtain⟨n,hn⟩:∃n,n=s - 1:=⟨_,rfl⟩
   have hn6:n≤65535:=by omega
   have hmx:(s=0∧n=0)∨s=n+1:=by omega
   have HN:=Lib.hid hn
   clear hn
   go_upto_region 13 with fail
   go_cut [10] (fun v wx=>v = .int .i64 (n:Int)∧Hid (wx=wr))
   case first=>
    rcases hmx with ⟨rfl,rfl⟩ | rfl
    all_goals
     try rw [Int.natCast_add,Int.natCast_one] at *
     go_wp2_with fail
     try go_meet
     try exact⟨rfl,Lib.hid rfl⟩
   case rest=>
    obtain⟨rfl,hwx⟩:=hcut
    obtain rfl:=hwx.out
    by_cases hbad:480<n∨m<n
    ·have HNO:Hid (parseE S=4):=Lib.hid (parseE_no HS.out (parse_no3 (k:=k+1) (by rw [HSK.out,goS_eq,←HN.out,if_pos (by omega)]) (by have:=HC.out;omega)))
     have HBL:=Lib.hid hpl.out.below
     have HPR:Hid (PRes w _ S (.pointer none)):=Lib.hid (PRes.none_ (by rw [HNO.out];decide) HBL.out)
     have HE4:Hid (E=4):=Lib.hid (HE.out.symm.trans HNO.out)
     have hor:n≤480∨480<n:=by omega
     have hb1:m<n∨480<n:=by omega
     clear hbad
     go_wp2_with fail
     all_goals
      go_ret2
      rw [HE4.out]
      exact⟨_,rfl,HPR.out⟩
    ·have hn1:n≤480:=by omega
     have hn2:n≤m:=by omega
     clear hbad
     go_upto_region 14 with fail
     go_cut [45] (fun v wx=>v = .bool false∧Hid (wx=wc))
     case first=>
      go_wp2_with fail
      all_goals
       go_meet
       exact⟨by simp;omega,Lib.hid rfl⟩
     case rest=>
      obtain⟨rfl,hwx⟩:=hcut
      obtain rfl:=hwx.out
      have HNX:Hid (goF S (k+1)=some (l++[slO S s a],a+n)):=Lib.hid (by rw [HSK.out,goS_eq,←HN.out,if_neg (by omega)])
      have hso:=slO_some S s a
      have hrc:=slO_rec S s a
      rw [←HN.out] at hrc
      have he:=ext_ext S a n (by omega)
      have hdr:=ext_drop S a n HS.out (by omega)
      rw [HR.out] at he hdr
      rw [hrs] at hdr
      have HDR:=Lib.hid hdr
      rw [←he] at hrc
      have hle1:(n:Int)≤(m:Int):=by omega
      obtain⟨o,HO⟩:∃o,Hid (slO S s a=o):=⟨_,Lib.hid rfl⟩
      rw [HO.out] at hso hrc HNX
      have HSO:=Lib.hid hso
      have HRC:=Lib.hid hrc
      clear hso hrc he hdr
      have HFL:Hid ([Value.bool o.isSome,.string (recOf o)]=[.bool (decide (0<s)),.string (R.extract 0 n)]):=Lib.hid (by rw [HSO.out,HRC.out])
      have h9':=h9.len
      have HNN:=Lib.hid h9'
      clear h9'
      obtain⟨q,cq,hv⟩:=own_form hpl.out.page.row
      subst hv
      rw [HNN.out] at hpl
      have c0:=hpl.out.page.c0
      have cf:=hpl.out.page.fz
      have HGL:Hid (g<wc.heap.size):=Lib.hid (lt_of_block hpl.out.page.hd)
      have c0a:(wc.alloc (.cells #[.bool (decide (0<s)),.string (R.extract 0 n)] 216)).cell? ⟨g,0,none⟩=some (.slice q k cq):=(World.cell?_alloc_lt _ _ _ HGL.out).trans c0
      have HOWN:Hid (∀ob:Obj,(wc.alloc ob).drew.ownsRow 0 216 2 (.slice q k cq) k (flat l)):=Lib.hid (fun ob=>by
       have h1:=hpl.out.page.row
       rw [HNN.out] at h1
       exact own_other (w:=wc) h1 (fun k hk=>Below.heap_alloc wc ob k ((h1.lt k hk).2)))
      obtain⟨i0,hi,hz0,hz1,hz2⟩:=info_parts infoS
      have HI:=Lib.hid hi
      have HZ0:=Lib.hid hz0
      have HZ1:=Lib.hid hz1
      have HZ2:=Lib.hid hz2
      have H63:Hid (k+1≤maxLen):=Lib.hid (by unfold maxLen;omega)
      have HONE:Hid (∀u∈[Value.bool (decide (0<s)),.string (R.extract 0 n)],u.oneCell'=true):=Lib.hid (by
       intro u hu
       simp at hu
       rcases hu with rfl | rfl <;> rfl)
      have HFAR:Hid (∀(ob:Obj) (w3:World),(wc.alloc ob).drew.grownBy w3 (Value.slice q k cq).ownBlock→w3.cell? ⟨g,0,none⟩=some (.slice q k cq)∧w3.frozen? ⟨g,0,none⟩=false):=Lib.hid (fun ob w3 hg=>by
       have h0:w3.heap[g]?=wc.heap[g]?:=
        (hg.block g (by show _<(wc.alloc ob).heap.size;simp;have:=HGL.out;omega) (fun e=>hpl.out.page.ne g e.symm rfl)).trans (Below.heap_alloc wc ob g HGL.out)
       exact⟨(World.cell?_of_block h0).trans c0,(World.frozen?_of_block h0).trans cf⟩)
      have HNN1:Hid ((0:Nat)<1):=Lib.hid (by omega)
      clear hi hz0 hz1 hz2 h9
      go_wp2_with fail
      go_region_law (refine step_append_lies _ rfl (.tmp 50) (.tmp 57) 212 rfl 0 216 i0 (.agg #[.bool false,.string ⟨#[]⟩]) 2 24 Tryz.underlying212 HI.out HZ0.out HZ1.out HZ2.out rfl (by decide) (.slice q k cq) k (flat l) (by rfl) (HOWN.out _) ⟨_,0,none⟩ 1 1 [.bool (decide (0<s)),.string (R.extract 0 n)] (by rfl) rfl (World.news_of_block (heap_alloc_new _ _)) HONE.out HNN1.out H63.out (by omega) (Nat.zero_le _) _ rfl ?_;intro gN cap2 w3 hown hgrow hat hlt3;have hF:=HFAR.out _ _ hgrow;have f2:=hF.2;have c2:=hF.1)
      all_goals
       have HPN:Hid (Pl w (w3.setCell ⟨g,0,none⟩ (.slice (some ⟨gN,0,none⟩) (k+1) cap2)) S b c g (.slice (some ⟨gN,0,none⟩) (k+1) cap2) (l++[o])):=Lib.hid (by
        rw [←HFL.out,←HNN.out] at hown
        have h1:=hpl.out
        rw [←HNN.out] at h1 hgrow hat
        have h2:=h1.snoc (ob:=.cells #[.bool (decide (0<s)),.string (R.extract 0 n)] 216) hown ⟨hgrow.os,hgrow.tape,hgrow.output,hgrow.size,hgrow.block⟩ (hat.imp id (fun e=>by rw [e];show (wc.alloc _).heap.size=_;simp))
        rwa [HNN.out] at h2)
       clear hF hown hgrow hat hlt3 c2 f2
       go_wp2_with fail
       go_roundw
       case rel=>exact⟨k+1,a+n,l++[o],_,by omega,by go_num,by rw [HDR.out],HNX,by first | exact HPN | exact Lib.hid HPN.out.drew⟩
       case measure=>simp [RowKit.intOf];omega
  ·obtain rfl:k=c:=by omega
   have HTR:=Lib.hid (trim_any R wr (by omega))
   have HGO:Hid (goF S (cntA S)=some (l,a)):=Lib.hid (by rw [HC.out];exact hgo.out)
   have HPM:Hid (parseM S=if zeroB S a=true then some l else none):=Lib.hid (parse_at HGO.out H64.out H0.out)
   have HAZ:Hid (allZ R↔zeroB S a=true):=Lib.hid (by rw [←HR.out];exact allZ_zeroB S a HS.out ha)
   by_cases hz:zeroB S a=true
   ·have HZ:=Lib.hid hz
    have hPM:=HPM.out
    rw [if_pos hz] at hPM
    have HPM2:=Lib.hid hPM
    have HE0:Hid (E=0):=Lib.hid (HE.out.symm.trans (parseE_ok HS.out hPM))
    clear hz hPM HPM
    go_wp2_with (go_at_call 198;refine HTR.out.mono ?_;rintro e w5 ⟨⟨U,rfl,hu⟩,hb⟩;have hU:U=⟨#[]⟩:=empty_of (hu.2 (HAZ.out.2 HZ.out));subst hU;have HB5:=Lib.hid hb;clear hb hu)
    go_ret2
    have hb5:=HB5.out
    have hp5:Pg0 w5 g v l:=(hpl.out.page.pg0 (parse_ok HS.out HPM2.out).1).below hb5
    rw [HE0.out]
    refine⟨_,rfl,fun _=>⟨l,g,_,rfl,HPM2.out,hp5.pg,fun j hj=>?_⟩,fun h=>absurd (HE.out.trans HE0.out) h,hpl.out.below.trans (hb5.mono hpl.out.below.size)⟩
    simp only [foot,List.mem_cons,Option.mem_toList] at hj
    rcases hj with rfl | hj
    ·exact hpl.out.high
    ·exact hpl.out.vhigh j hj
   ·have HZ:=Lib.hid hz
    have hPM:=HPM.out
    rw [if_neg hz] at hPM
    have HE4:Hid (E=4):=Lib.hid (HE.out.symm.trans (parseE_no HS.out hPM))
    clear hz hPM HPM
    go_wp2_with (go_at_call 198;refine HTR.out.mono ?_;rintro e w5 ⟨⟨U,rfl,hu⟩,hb⟩;have hU:U.toList.isEmpty=false:=notEmpty_of (fun e2=>HZ.out (HAZ.out.1 (hu.1 e2)));have HB5:=Lib.hid hb;clear hb hu)
    go_ret2
    rw [HE4.out]
    exact⟨_,rfl,PRes.none_ (by rw [HE.out,HE4.out];decide) (hpl.out.below.trans (HB5.out.mono hpl.out.below.size))⟩
theorem parse_any (S:ByteArray) (w:World) (h63:S.size≤9223372036854775807):Calls Tryz.prog 154 #[.string S] w fun e w'=>∃p,e = .returned (.tuple #[p,.int .i64 (parseE S)])∧PRes w w' S p:=by
 rcases Nat.lt_trichotomy S.size 512 with h | h | h
 ·exact parse_short S w h
 ·by_cases h64:64<cntA S
  ·exact parse_bad1 S w h h64
  ·by_cases h0:0<cntA S∧szA S (cntA S - 1)=0
   ·exact parse_bad2 S w h h64 h0
   ·exact parse_512 S w h h64 h0
 ·exact parse_long S w h h63
end Sl
end
section
set_option maxRecDepth 20000
open Go.RowKit
section
variable {w w':World} {d sg pg k g mb mb2 n:Nat} {D G:List Nat} {m:Dsk} {s:Sp} {y:Xv} {v:Value} {F:Nat→Nat} {fm:Dmf}
theorem dm_at (f:Dmf) (l:Nat):f.at_ (l:Int)=f l:=by
 unfold Dmf.at_
 rw [if_pos (by omega),Int.toNat_natCast]
theorem bytes_parse {sl:List Sl.Sl} (h:Sl.Okp sl):Sl.parseE (strB (Sl.bytesM sl))=0∧Sl.parseM (strB (Sl.bytesM sl))=some sl:=by
 have h2:=Sl.parse_back h
 have hs:=Sl.bytesS_size h
 unfold Sl.bytesS at h2 hs
 exact⟨Sl.parseE_ok hs h2,h2⟩
set_option maxHeartbeats 1600000 in
theorem Sto.deskPage (h:Sto w d sg D G m s pg y k g mb v n F) (hm:Dms w mb2 fm) (l:Nat) (hl:l<512) {sl:List Sl.Sl} (hok:Sl.Okp sl) (hy:y.now l=Sl.bytesM sl) (hf:fm l=none) :
  Calls Tryz.prog 100 #[.agg #[.pointer (some ⟨g,0,none⟩),.map (some mb2)],.int .i64 (l:Int)] w fun e w'=>∃gp vp,e = .returned (.tuple #[.pointer (some ⟨gp,0,none⟩),.int .i64 0])∧Dms w' mb2 (fm.put l gp)∧Sl.Pg0 w' gp vp sl∧(∀j∈Sl.foot gp vp,w.heap.size≤j)∧Chg [mb2] [mb2] w w':=by
 have hb0:Below w.heap.size w (w.alloc (.cells #[.pointer (some ⟨g,0,none⟩),.map (some mb2)] 106)):=(Below.refl _ _).alloc (Nat.le_refl _) _
 have hx0:=heap_alloc_new w (.cells #[.pointer (some ⟨g,0,none⟩),.map (some mb2)] 106)
 have h1:=h.below hb0
 have hm1:=hm.below hb0
 have hlk:=hm1.look (l:Int) (by omega) (by omega)
 rw [dm_at,hf] at hlk
 have hth:thX y.now (l:Int)=true:=by
  rw [th_nat hl,nn_iff,hy];exact bytesM_ne _
 have HR:=Lib.hid (h1.read (l:Int) (by omega) (by omega))
 rw [show readV y (l:Int) = .tuple #[.string (strB (y.now l)),.int .i64 0] from if_pos hth,hy] at HR
 obtain⟨e0,e1⟩:=bytes_parse hok
 have HPS:Hid (∀w1,Calls Tryz.prog 154 #[.string (strB (Sl.bytesM sl))] w1 fun e w'=>∃gp vp,e = .returned (.tuple #[.pointer (some ⟨gp,0,none⟩),.int .i64 0])∧Sl.Pg0 w' gp vp sl∧(∀j∈Sl.foot gp vp,w1.heap.size≤j)∧Below w1.heap.size w1 w'):=Lib.hid fun w1=>(Sl.parse_any (strB (Sl.bytesM sl)) w1 (by rw [strB_size,Sl.bytesM_len hok];omega)).mono (by
  rintro e w' ⟨p,rfl,hr⟩
  obtain⟨l2,gp,F2,rfl,hp2,⟨vp,hpg,rfl⟩,hfr⟩:=hr.ok e0
  rw [e1] at hp2
  cases hp2
  exact⟨gp,vp,by rw [e0],hpg,hfr,hr.below⟩)
 have HM1:=Lib.hid hm1
 have HB0:=Lib.hid hb0
 have HL:=Lib.hid hl
 have HML:=Lib.hid hm.lt
 clear h hm hb0 h1 hm1 hf hth hy e0 e1 hok
 generalize strB (Sl.bytesM sl)=T at *
 go_enter Tryz.func100,Tryz.ntmps100
 go_upto_region 1 with fail
 generalize w.alloc (.cells #[.pointer (some ⟨g,0,none⟩),.map (some mb2)] 106)=W1 at *
 have a0:=cell_of_row _ _ 0 _ _ _ hx0
 have a1:=cell_of_row _ _ 1 _ _ _ hx0
 simp at a0 a1 hlk
 have HX0:=Lib.hid hx0
 clear hx0
 go_upto_region 7 with (go_at_call 118;with_reducible refine HR.out.mono ?_;rintro e w2 ⟨rfl,hb2⟩;have HB2:=Lib.hid hb2;clear hb2)
 go_upto_region 10 with (go_at_call 154;with_reducible refine(HPS.out _).mono ?_;rintro e w3 ⟨gp,vp,rfl,hp3,hf3,hb3⟩;have HB3:=Lib.hid (HB2.out.trans (hb3.mono HB2.out.size));have HP3:=Lib.hid hp3;have HF3:=Lib.hid hf3;have HZ3:=Lib.hid HB2.out.size;clear hb3 hp3 hf3)
 have a1:=(HB3.out.cell (p:=⟨w.heap.size,1,none⟩) (lt_of_block HX0.out)).trans a1
 obtain⟨w4,hrun,hm4,ho4⟩:=(HM1.out.below HB3.out).store l gp HL.out
 have HFIN:Hid (Dms w4 mb2 (fm.put l gp)∧Sl.Pg0 w4 gp vp sl∧(∀j∈Sl.foot gp vp,w.heap.size≤j)∧Chg [mb2] [mb2] w w4):=Lib.hid (by
  have hml:=HML.out
  have hz0:=HB0.out.size
  have hz2:=HZ3.out
  have hc4:Sl.Chg [mb2] [mb2] w3 w4:=⟨ho4.os,ho4.tape,ho4.output,ho4.size,fun j hj hn=>ho4.block j hj (fun e=>hn (by rw [e];exact List.mem_singleton.2 rfl)),fun _ h=>.inl h⟩
  refine⟨hm4,HP3.out.stay hc4 (fun j hj e=>?_),fun j hj=>by have:=HF3.out j hj;omega,?_⟩
  ·have e:=List.mem_singleton.1 e
   have:=HF3.out j hj
   omega
  ·exact(Chg.of_below2 [mb2] (HB0.out.trans (HB3.out.mono HB0.out.size))).trans ⟨ho4.os,ho4.tape,ho4.output,ho4.size,fun j hj hn=>ho4.block j hj (fun e=>hn (by rw [e];exact List.mem_singleton.2 rfl)),fun _ h=>.inl h⟩)
 clear hm4 ho4 hlk a0
 go_wp2_with fail
 go_ret2
 exact⟨gp,vp,rfl,HFIN.out⟩
end
end
end Go.Proofs.YtmbecjlioogbhaaGreatDoor
