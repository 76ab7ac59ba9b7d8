/- Texts TLeaf to BWith of this seat, laid into one. -/
import Derived.Test.YtmbecjlioogbhaaGreatDoorM03
set_option linter.unusedVariables false
set_option linter.unusedSimpArgs false
set_option linter.constructorNameAsVariable false
section
set_option maxRecDepth 20000
namespace Go.Proofs.YtmbecjlioogbhaaGreatDoor.Tb
open Go.Proofs.YtmbecjlioogbhaaGreatDoor.Bi
open Go.RowKit
def leafF (f:Nat→Nat) (i:Nat):Nat→Nat:=fun k=>f (128*i+k)
theorem leaf_no (x:Int) (g:Nat) (h:¬ (0≤x∧x<4)) (w:World):Calls Tryz.prog 175 #[.pointer (some ⟨g,0,none⟩),.int .i64 x] w fun e w'=>e = .returned (.bool false)∧w=w':=by
 have:=leaf_tab g x w
 have e:(decide (0≤x) && decide (x<4))=false:=by rw [←Bool.decide_and];exact decide_eq_false h
 rwa [e] at this
theorem leaf_yes (i g:Nat) (h:i<4) (w:World):Calls Tryz.prog 175 #[.pointer (some ⟨g,0,none⟩),.int .i64 (i:Int)] w fun e w'=>e = .returned (.bool true)∧w=w':=by
 have:=leaf_tab g (i:Int) w
 rwa [decide_eq_true (show (0:Int)≤(i:Int) by omega),decide_eq_true (show (i:Int)<4 by omega)] at this
set_option maxRecDepth 100000 in
theorem leaf_in {w:World} {g:Nat} {f:Nat→Nat} (h:Tab w g f) (i:Nat) (hi:i<4) :
  Calls Tryz.prog 141 #[.pointer (some ⟨g,0,none⟩),.int .i64 (i:Int)] w fun e w'=>(∃p c',e = .returned (.slice p 512 c')∧Bys w' p 512 (fours (leafF f i) 128)∧512≤c'∧c'≤9223372036854775807)∧Below w.heap.size w w':=by
 have HY:=Lib.hid (fun w'=>leaf_yes i g hi w')
 have HL:=Lib.hid (lay_any g (i*128) 128 128 (leafF f i) w (by omega) (fun j=>h.ok.lt _) (fun j hj=>by unfold leafF;rw [Nat.mul_comm i 128];exact h.row.cell _ (by omega)))
 have HI:=Lib.hid hi
 clear h
 go_enter Tryz.func141,Tryz.ntmps141
 go_wp2_with (first | (go_at_call 175;refine(HY.out _).mono ?_;rintro e w7 ⟨rfl,rfl⟩) | (go_at_call 176;refine HL.out.mono ?_;rintro e w7 ⟨⟨p,c',rfl,hB,hcp⟩,hb⟩))
 go_ret
 exact⟨⟨_,_,rfl,hB,hcp⟩,hb⟩
def bareB (f:Nat→Nat) (i:Nat):Bool:=sameN (leafF f i) (fun _=>0) 128
set_option maxRecDepth 100000 in
theorem bare_in {w:World} {g:Nat} {f:Nat→Nat} (h:Tab w g f) (i:Nat) (hi:i<4) :
  Calls Tryz.prog 140 #[.pointer (some ⟨g,0,none⟩),.int .i64 (i:Int)] w fun e w'=>e = .returned (.bool (bareB f i))∧w=w':=by
 have HY:=Lib.hid (fun w'=>leaf_yes i g hi w')
 have HI:=Lib.hid hi
 have HR:=Lib.hid (h.row.range (i*128) 128 (by omega))
 have HE:Hid (∀w,(binOp .eql 184 (.agg (ints f (i*128) 128).toArray) (.agg (ints (fun _=>0) 0 128).toArray)).run Tryz.prog w = .ok (.bool (bareB f i)) w):=Lib.hid fun w=>by
  rw [eq_row 184 128 Tryz.underlying184]
  unfold bareB leafF
  rw [Nat.mul_comm 128 i]
 obtain⟨hz,-⟩:=zero_of_info (P:=Tryz.prog) info184
 have HS:Hid ((Tryz.prog.info? 184).map (·.size)=some (ints f (i*128) 128).length):=Lib.hid (by rw [size184,ints_len])
 have hg:=guard81
 clear h
 have hzz:∀w,(zeroValue 184).run Tryz.prog w = .ok (.agg (ints (fun _=>0) 0 128).toArray) w:=hz
 clear hz
 generalize (ints (fun _=>0) 0 128).toArray=Z at *
 generalize ints f (i*128) 128=X at *
 have hee:=HE.out
 have hi':(i:Int)<4:=by omega
 go_enter Tryz.func140,Tryz.ntmps140
 go_wp2_with (first
  | (go_at_call 175;refine(HY.out _).mono ?_;rintro e w7 ⟨rfl,rfl⟩)
  | (refine wpList_load_mid rfl 184 (.tmp 15) rfl g (i*128) rfl X _ HR.out Tryz.underlying184 rfl HS.out ?_))
 go_ret
 exact⟨rfl,rfl⟩
end Go.Proofs.YtmbecjlioogbhaaGreatDoor.Tb
end
section
set_option maxRecDepth 20000
namespace Go.Proofs.YtmbecjlioogbhaaGreatDoor.Tb
open Go.Proofs.YtmbecjlioogbhaaGreatDoor.Bi
open Go.RowKit
def difB (f k:Nat→Nat):Nat→Bool:=fun i=>!sameN (leafF f i) (leafF k i) 128
def ivs (l:List Nat):List Value:=l.map fun (x:Nat)=>Value.int .i64 (x:Int)
theorem Tryz.info3:(Tryz.prog.info? 3).map (fun i=>(i.zero,i.size,i.bytes))=some (some (.int .i64 0),1,8):=by kernel_rfl
theorem own_base {w:World} {B B' E m n:Nat} {v:Value} {xs:List Value} (h:w.ownsRow B E m v n xs) (hB:B'≤B):w.ownsRow B' E m v n xs:=by
 refine⟨h.1,?_⟩
 rcases h.2 with h2 | ⟨g,cap,cur,e,hb,hr⟩
 ·exact .inl h2
 ·exact .inr ⟨g,cap,cur,e,Nat.le_trans hB hb,hr⟩
theorem wpQuiet_load_mid {P:Program} {ops:Array Oper} {C:World→Prop} {Q:Act→Prop} {a:Act} {op:Oper} {rest:List Oper} (hw:Region.wanted op (yielded ops a.tmps)=true) (ty:TypeId) (x:Operand) (ho:op.op = .load ty x)
  (b o:Nat) (hx:a.eval x = .pointer (some ⟨b,o,none⟩)) (cs:List Value) (d:TypeDesc) (hc:∀w,C w→w.rangeAt b o cs) (hu:P.underlying ty=some d) (hd:d.isRow=true) (hi:(P.info? ty).map (·.size)=some cs.length)
  (h:wpQuiet P ops C Q rest (a.put op.dst (.agg cs.toArray))):wpQuiet P ops C Q (op :: rest) a:=
 BigFrame.wpQuiet_want hw fun K hK=>⟨.agg cs.toArray,fun w hw'=>by
  unfold Oper.quietAt execOp
  simp only [ho,hx,Instr.loadAt,Instr.sureAddr,Sem.run_bind,Sem.run_pure,Result.andThen_ok,run_loadVar_mid w b o ty cs d (hc w hw') hu hd hi]
  exact⟨rfl,rfl⟩,hK _ h⟩
set_option maxRecDepth 100000 in
set_option maxHeartbeats 3200000 in
theorem chg_all {w:World} {g:Nat} {f k:Nat→Nat} (h:Tab w g f) (q:Option Addr) (ho:(∃o,q=some ⟨o,0,none⟩∧Tab w o k)∨(q=none∧k=fun _=>0)) :
  Calls Tryz.prog 166 #[.pointer (some ⟨g,0,none⟩),.pointer q] w fun e w'=>(∃v,e = .returned v∧w'.ownsRow w.heap.size 3 1 v (mems (difB f k) 4).length (ivs (mems (difB f k) 4)))∧Below w.heap.size w w':=by
 obtain⟨i0,hi,hz0,hz1,hz2⟩:=info_parts Tryz.info3
 have H:=Lib.hid h
 have HO:=Lib.hid ho
 have HNIL:∀(B:Nat) (W:World),Hid (W.ownsRow B 3 1 (.slice none 0 0) 0 (ivs [])):=fun B W=>Lib.hid (World.ownsRow_nil _ _ _ _)
 clear h ho
 have hq:∀w,(binOp .eql 95 (.pointer q) (.pointer none)).run Tryz.prog w = .ok (.bool q.isNone) w:=fun w=>by
  have hu:=Tryz.underlying95
  cases q <;> simp [go_sem,Op.equal,Op.maxDepth,Op.equalIn,run_underlying hu]
 go_enter Tryz.func166,Tryz.ntmps166
 go_upto_if 10 with fail
 go_cut [1] (fun v wx=>∃o,v = .pointer (some ⟨o,0,none⟩)∧Tab wx o k∧Below w.heap.size w wx)
 case first=>
  rcases HO.out with ⟨o,rfl,hO⟩ | ⟨rfl,hk⟩
  ·have HOO:=Lib.hid hO
   clear hO
   go_wp2_with fail
   go_meet
   exact⟨o,rfl,HOO.out,Below.refl _ _⟩
  ·go_wp2_with (go_at_call 75;refine(new_any w).mono ?_;rintro e w7 ⟨rfl,hT,hb⟩)
   go_meet
   exact⟨_,rfl,by rw [hk];exact hT,hb⟩
 case rest=>
  obtain⟨o,rfl,hO,hb0⟩:=hcut
  have HOO:=Lib.hid hO
  have HB0:=Lib.hid hb0
  clear hO hb0 HO
  go_wp2_with fail
  go_loopw [12,5] (fun iv dv wr=>∃i:Nat,i≤4∧iv = .int .i64 (i:Int)∧wr.ownsRow wc.heap.size 3 1 dv (mems (difB f k) i).length (ivs (mems (difB f k) i))∧Below wc.heap.size wc wr) (fun iv _ _=>4 - (RowKit.intOf iv).toNat)
  case atStart=>exact⟨0,Nat.zero_le _,by go_num,(HNIL _ _).out,Below.refl _ _⟩
  case round=>
   obtain⟨i,hi1,rfl,hown,hbel⟩:=hrel
   have HOW:=Lib.hid hown
   have HF:=Lib.hid ((H.out.below HB0.out).below hbel)
   have HK:=Lib.hid (HOO.out.below hbel)
   have HB:=Lib.hid hbel
   have HI:=Lib.hid hi1
   clear hown hbel hi1
   by_cases hlt:i<4
   ·have HL1:Hid (∀w',(∃s:In wr,w'=s.1)→w'.rangeAt g (i*128) (ints f (i*128) 128)):=Lib.hid fun w' ⟨s,hs⟩=>by
     subst hs;exact(HF.out.row.below s.2).range (i*128) 128 (by omega)
    have HL2:Hid (∀w',(∃s:In wr,w'=s.1)→w'.rangeAt o (i*128) (ints k (i*128) 128)):=Lib.hid fun w' ⟨s,hs⟩=>by
     subst hs;exact(HK.out.row.below s.2).range (i*128) 128 (by omega)
    have HS1:Hid ((Tryz.prog.info? 184).map (·.size)=some (ints f (i*128) 128).length):=Lib.hid (by rw [size184,ints_len])
    have HS2:Hid ((Tryz.prog.info? 184).map (·.size)=some (ints k (i*128) 128).length):=Lib.hid (by rw [size184,ints_len])
    have hee:∀w,(binOp .neq 184 (.agg (ints f (i*128) 128).toArray) (.agg (ints k (i*128) 128).toArray)).run Tryz.prog w = .ok (.bool (difB f k i)) w:=fun w=>by
     rw [ne_row 184 128 Tryz.underlying184]
     unfold difB leafF
     rw [Nat.mul_comm 128 i]
    have hg:=guard81
    have hd:decide ((i:Int)<4)=true:=decide_eq_true (by omega)
    have hiz:(i:Int)<4:=by omega
    have HL:=Lib.hid hlt
    generalize ints f (i*128) 128=X at *
    generalize ints k (i*128) 128=Y at *
    cases hdf:difB f k i with
    | true=>
     have HM:Hid (mems (difB f k) (i+1)=mems (difB f k) i++[i]):=Lib.hid (mems_hit hdf)
     have HLN:Hid ((mems (difB f k) i).length≤i):=Lib.hid (mems_len _ _)
     rw [hdf] at hee
     clear hdf
     have hne:=In.some wr
     go_upto_region 9 with fail
     refine region_in wr (by kernel_rfl) (by kernel_rfl) (Below.refl _ _) ?_
     repeat (go_big_quiet_step (fail))
     refine wpQuiet_load_mid rfl 184 (.tmp 19) rfl g (i*128) rfl X _ HL1.out Tryz.underlying184 rfl HS1.out ?_
     simp only [Act.put,List.setIfInBounds_toArray,List.set_cons_succ,List.set_cons_zero]
     repeat (go_big_quiet_step (fail))
     refine wpQuiet_load_mid rfl 184 (.tmp 25) rfl o (i*128) rfl Y _ HL2.out Tryz.underlying184 rfl HS2.out ?_
     simp only [Act.put,List.setIfInBounds_toArray,List.set_cons_succ,List.set_cons_zero]
     repeat (go_big_quiet_step (fail))
     refine wpQuiet_nil ?_
     intro w12 hw'
     have hb12:Below wr.heap.size wr w12:=by
      obtain⟨⟨wz,hbz⟩,hw''⟩:=hw'
      subst hw''
      exact hbz
     clear hw' HL1 HL2 HS1 HS2
     have HOW2:=Lib.hid (own_below HOW.out hb12)
     have HB12:=Lib.hid hb12
     have HBW:=Lib.hid (HB.out.trans (hb12.mono HB.out.size))
     clear hb12
     have HIV:Hid (ivs (mems (difB f k) (i+1))=ivs (mems (difB f k) i)++[.int .i64 (i:Int)]∧(mems (difB f k) (i+1)).length=(mems (difB f k) i).length+1):=Lib.hid ⟨by rw [HM.out];unfold ivs;rw [List.map_append];rfl,by rw [HM.out,List.length_append];rfl⟩
     generalize (mems (difB f k) i).length=m at *
     generalize ivs (mems (difB f k) i)=ws at *
     go_wp2_with (at_builtin;refine wpList_append_own _ rfl _ _ 47 rfl wc.heap.size 3 i0 (.int .i64 0) 1 8 Tryz.underlying47 hi hz0 hz1 hz2 rfl (by decide) _ m _ rfl (World.ownsRow.alloc HOW2.out _) ⟨w12.heap.size,0,none⟩ 1 1 [.int .i64 (i:Int)] rfl rfl (one_cells w12 _ _) ?c2 ?c3 ?c4 ?c5 ?_)
     case c2=>intro v hv;simp at hv;subst hv;rfl
     case c3=>unfold maxLen;have:=HLN.out;have:=HL.out;omega
     case c4=>have:=HLN.out;have:=HL.out;omega
     case c5=>have:=HBW.out.size;simp;omega
     intro v' w1 hown hgrow hnil
     have HB1:=Lib.hid ((HBW.out.alloc HBW.out.size (.cells #[.int .i64 (i:Int)] 3)).grown hgrow (by have:=HBW.out.size;simp;omega) (by intro k2 hk2;exact(World.ownsRow.lt HOW2.out k2 hk2).1))
     have hown2:w1.ownsRow wc.heap.size 3 1 v' (mems (difB f k) (i+1)).length (ivs (mems (difB f k) (i+1))):=by rw [HIV.out.1,HIV.out.2];exact hown
     clear hown hgrow hnil
     go_wp2_with fail
     go_roundw
     case rel=>exact⟨i+1,by have:=HL.out;omega,by go_num,hown2,HB1.out⟩
     case measure=>have:=HL.out;simp [RowKit.intOf];omega
    | false=>
     have HM:Hid (mems (difB f k) (i+1)=mems (difB f k) i):=Lib.hid (mems_miss hdf)
     rw [hdf] at hee
     clear hdf
     have hne:=In.some wr
     go_upto_region 9 with fail
     refine region_in wr (by kernel_rfl) (by kernel_rfl) (Below.refl _ _) ?_
     repeat (go_big_quiet_step (fail))
     refine wpQuiet_load_mid rfl 184 (.tmp 19) rfl g (i*128) rfl X _ HL1.out Tryz.underlying184 rfl HS1.out ?_
     simp only [Act.put,List.setIfInBounds_toArray,List.set_cons_succ,List.set_cons_zero]
     repeat (go_big_quiet_step (fail))
     refine wpQuiet_load_mid rfl 184 (.tmp 25) rfl o (i*128) rfl Y _ HL2.out Tryz.underlying184 rfl HS2.out ?_
     simp only [Act.put,List.setIfInBounds_toArray,List.set_cons_succ,List.set_cons_zero]
     repeat (go_big_quiet_step (fail))
     refine wpQuiet_nil ?_
     intro w12 hw'
     have hb12:Below wr.heap.size wr w12:=by
      obtain⟨⟨wz,hbz⟩,hw''⟩:=hw'
      subst hw''
      exact hbz
     clear hw' HL1 HL2 HS1 HS2
     have HOW2:=Lib.hid (own_below HOW.out hb12)
     have HB12:=Lib.hid hb12
     have HBW:=Lib.hid (HB.out.trans (hb12.mono HB.out.size))
     clear hb12
     go_wp2_with fail
     go_roundw
     case rel=>exact⟨i+1,by have:=HL.out;omega,by go_num,by rw [HM.out];exact HOW2.out,HBW.out⟩
     case measure=>have:=HL.out;simp [RowKit.intOf];omega
   ·have hd:decide ((i:Int)<4)=false:=decide_eq_false (by omega)
    have HE:Hid (i=4):=Lib.hid (by have:=HI.out;omega)
    clear hlt
    go_wp2_with fail
    go_ret
    have h1:=HOW.out
    rw [HE.out] at h1
    exact⟨⟨_,rfl,own_base h1 HB0.out.size⟩,HB0.out.trans (HB.out.mono HB0.out.size)⟩
end Go.Proofs.YtmbecjlioogbhaaGreatDoor.Tb
end
section
set_option maxRecDepth 20000
namespace Go.Proofs.YtmbecjlioogbhaaGreatDoor.Tb
open Go.Proofs.YtmbecjlioogbhaaGreatDoor.Bi
open Go.RowKit
def preB (bs:List Nat) (k:Nat):Nat→Nat
 | 0=>0
 | j+1=>preB bs k j*256+bs.getD (4*k+j) 0
theorem preB_four (bs:List Nat) (k:Nat):preB bs k 4=valB bs k:=by
 show (((0*256+bs.getD (4*k+0) 0)*256+bs.getD (4*k+1) 0)*256+bs.getD (4*k+2) 0)*256+bs.getD (4*k+3) 0=_
 unfold valB;rw [Nat.add_zero];omega
theorem preB_lt {bs:List Nat} (hd:∀i,bs.getD i 0<256) (k j:Nat):preB bs k j<256 ^ j:=by
 induction j with
 | zero=>exact Nat.one_pos
 | succ j ih=>
  show preB bs k j*256+bs.getD (4*k+j) 0<256 ^ (j+1)
  have:=hd (4*k+j)
  rw [Nat.pow_succ];omega
theorem getD_lt {bs:List Nat} (hd:∀x∈bs,x<256) (i:Nat):bs.getD i 0<256:=by
 rw [List.getD_eq_getElem?_getD]
 cases h:bs[i]? with
 | none=>decide
 | some x=>exact hd x (List.mem_of_getElem? h)
theorem or_i64 (x y:Nat) (hx:x<16777216) (hy:y<256):bits .or .i64 ((x:Int)*256) (y:Int)=((x*256+y:Nat):Int):=by
 have h3:(x*256) ||| y=x*256+y:=by
  have h4:=Nat.two_pow_add_eq_or_of_lt (i:=8) (b:=y) (by omega) x
  rw [show 2 ^ 8*x=x*256 by omega] at h4
  exact h4.symm
 have hs:(BitVec.ofInt 64 ((x:Int)*256)).toNat=x*256:=by
  rw [show (x:Int)*256=((x*256:Nat):Int) by omega,BitVec.ofInt_natCast,BitVec.toNat_ofNat];exact Nat.mod_eq_of_lt (by omega)
 have hp:(BitVec.ofInt 64 (y:Int)).toNat=y:=by
  rw [BitVec.ofInt_natCast,BitVec.toNat_ofNat];exact Nat.mod_eq_of_lt (by omega)
 show IntKind.i64.wrap ((BitVec.ofInt 64 ((x:Int)*256) ||| BitVec.ofInt 64 (y:Int)).toNat:Int)=_
 rw [BitVec.toNat_or,hs,hp,h3,IntKind.wrap_i64]
 omega
theorem set_snoc (g:Nat):∀(l:List Value) (o:Nat) (v:Value) (w:World),w.setCells g o (l++[v])=(w.setCells g o l).setCell ⟨g,o+l.length,none⟩ v
 | [],o,v,w=>rfl
 | u :: l,o,v,w=>by
  rw [List.cons_append,World.setCells,set_snoc g l (o+1) v,World.setCells,List.length_cons,show o+1+l.length=o+(l.length+1) by omega]
theorem ints_snoc (f:Nat→Nat) (a n:Nat):ints f a (n+1)=ints f a n++[.int .i64 ((f (a+n):Nat):Int)]:=by
 unfold ints;rw [List.range_succ,List.map_append];rfl
theorem mayI_nat (v:Nat):mayI (v:Int)=pgN v:=by
 unfold mayI pgI pgN
 rw [Bool.eq_iff_iff];simp;omega
def okV (V:Nat→Nat) (n:Nat):Bool:=decide (∀j,j<n→pgN (V j)=true)
set_option maxRecDepth 100000 in
set_option maxHeartbeats 3200000 in
theorem take_any (g n c m cc:Nat) (p:Option Addr) (bs:List Nat) (w:World) (hn0:0<n) (hn:n≤128) (hT:w.there g 0 n) (hB:Bys w p m bs) (hm:4*n≤m) (hcc:m≤cc) (hc2:cc≤9223372036854775807) (hp:∀b o,p=some ⟨b,o,none⟩→b≠g) :
  Calls Tryz.prog 189 #[.slice (some ⟨g,0,none⟩) n c,.slice p m cc] w fun e w'=>e = .returned (.bool (okV (valB bs) n))∧∃k,k≤n∧w'=w.setCells g 0 (ints (valB bs) 0 k)∧(okV (valB bs) n=true→k=n):=by
 obtain⟨bb,o,rfl,hc⟩:=hB.at (by omega)
 have hne:=hp bb o rfl
 have HT:=Lib.hid hT
 have HC:Hid (∀i,i<m→∀(l:List Value),(w.setCells g 0 l).cell? ⟨bb,o+i,none⟩=some (.int .u8 ((bs.getD i 0:Nat):Int))):=Lib.hid fun i hi l=>by
  rw [World.cell?_setCells_out g l 0 w _ (fun e _=>absurd e hne)];exact hc i hi
 have HD:=Lib.hid (getD_lt hB.dig)
 have HN:=Lib.hid (And.intro hn0 hn)
 have HM:=Lib.hid (And.intro hm (And.intro hcc hc2))
 have hnz:(n:Int)≤128:=by omega
 have hmz:(m:Int)≤9223372036854775807:=by omega
 have hcz:(cc:Int)≤9223372036854775807:=by omega
 clear hT hB hc hp hn hn0 hm hcc hc2 hne
 generalize hV:valB bs=V
 have HV:=Lib.hid hV
 clear hV
 go_enter Tryz.func189,Tryz.ntmps189
 go_wp2_with fail
 go_loopw [11] (fun iv wr=>∃i:Nat,i≤n∧iv = .int .i64 (i:Int)∧wr=w.setCells g 0 (ints V 0 i)∧∀j,j<i→pgN (V j)=true) (fun iv _=>n - (RowKit.intOf iv).toNat)
 case atStart=>exact⟨0,Nat.zero_le _,by go_num,rfl,fun j hj=>absurd hj (Nat.not_lt_zero j)⟩
 case round=>
  obtain⟨i,hi1,rfl,rfl,hok⟩:=hrel
  have HOK:=Lib.hid hok
  have HI:=Lib.hid hi1
  clear hok hi1
  by_cases hlt:i<n
  ·have hd:decide ((i:Int)<(n:Int))=true:=decide_eq_true (by omega)
   have HL:=Lib.hid hlt
   have h4i:4*i+4≤m:=by have:=HM.out;omega
   have h4c:4*i+4≤cc:=by have:=HM.out;omega
   have hiz:(i:Int)<128:=by have:=HN.out;omega
   have HTI:=Lib.hid (World.there_setCells HT.out g 0 (ints V 0 i))
   have HCW:=Lib.hid (fun (j:Nat) (hj:j<4)=>HC.out (4*i+j) (by omega) (ints V 0 i))
   have HSN:Hid (w.setCells g 0 (ints V 0 (i+1))=(w.setCells g 0 (ints V 0 i)).setCell ⟨g,i,none⟩ (.int .i64 ((V i:Nat):Int))):=Lib.hid (by rw [ints_snoc,set_snoc,ints_len,Nat.zero_add])
   clear hlt
   generalize hwr:w.setCells g 0 (ints V 0 i)=wr at *
   have HWR:=Lib.hid hwr.symm
   clear hwr
   go_wp2_with fail
   go_loop [20,6] (fun jv pv=>∃j:Nat,j≤4∧jv = .int .i64 (j:Int)∧pv = .int .i64 ((preB bs i j:Nat):Int)) (fun jv _=>4 - (RowKit.intOf jv).toNat)
   case atStart=>exact⟨0,by omega,by go_num,rfl⟩
   case round=>
    obtain⟨j,hj,rfl,rfl⟩:=hrel
    by_cases hlj:j<4
    ·have hcell:=HCW.out j hlj
     have hoff:o+i*4+j=o+(4*i+j):=by omega
     rw [←hoff] at hcell
     have hor:=or_i64 (preB bs i j) (bs.getD (4*i+j) 0) (by
      have:=preB_lt HD.out i j
      have h2:256 ^ j≤256 ^ 3:=Nat.pow_le_pow_right (by omega) (by omega)
      omega) (HD.out _)
     have hpz:((preB bs i j:Nat):Int)<16777216:=by
      have:=preB_lt HD.out i j
      have h2:256 ^ j≤256 ^ 3:=Nat.pow_le_pow_right (by omega) (by omega)
      omega
     have hpz0:(0:Int)≤((preB bs i j:Nat):Int):=Int.natCast_nonneg _
     have hyz:((bs.getD (4*i+j) 0:Nat):Int)<256:=by have:=HD.out (4*i+j);omega
     have hyz0:(0:Int)≤((bs.getD (4*i+j) 0:Nat):Int):=Int.natCast_nonneg _
     have hjz:(j:Int)<4:=by omega
     have HPN:Hid (preB bs i (j+1)=preB bs i j*256+bs.getD (4*i+j) 0):=Lib.hid rfl
     rw [←HPN.out] at hor
     have HJ:=Lib.hid hlj
     clear hlj hj hoff
     generalize hrr:preB bs i (j+1)=r at *
     have HRR:=Lib.hid hrr
     clear hrr
     generalize preB bs i j=q at *
     generalize bs.getD (4*i+j) 0=y at *
     go_wp2_with fail
     go_round
     case rel=>exact⟨j+1,by have:=HJ.out;omega,by go_num,by rw [HRR.out]⟩
     case measure=>have:=HJ.out;simp [RowKit.intOf];omega
    ·obtain rfl:j=4:=by omega
     have HP4:Hid (preB bs i 4=V i):=Lib.hid (by rw [preB_four,HV.out])
     rw [HP4.out]
     have HMA:=Lib.hid (fun w=>may_any7 ((V i:Nat):Int) w)
     rw [mayI_nat] at HMA
     have hvz:((V i:Nat):Int)<4294967296:=by
      have:=preB_lt HD.out i 4
      rw [HP4.out] at this
      omega
     have hth:=HTI.out i (HL.out)
     rw [Nat.zero_add] at hth
     obtain⟨ht1,ht2⟩:=hth
     cases hpg:pgN (V i) with
     | true=>
      rw [hpg] at HMA
      have HO2:Hid (∀j,j<i+1→pgN (V j)=true):=Lib.hid fun j hj=>by
       by_cases e:j=i
       ·rw [e];exact hpg
       ·exact HOK.out j (by omega)
      obtain⟨cv,hcv⟩:=Option.isSome_iff_exists.1 ht1
      clear hpg hlj hj ht1
      generalize V i=v at *
      go_wp2_with (go_at_call 181;refine(HMA.out _).mono ?_;rintro e w7 ⟨rfl,rfl⟩)
      go_roundw
      case rel=>exact⟨i+1,by have:=HL.out;omega,by go_num,by rw [HSN.out],HO2.out⟩
      case measure=>have:=HL.out;simp [RowKit.intOf];omega
     | false=>
      rw [hpg] at HMA
      have HOV:Hid (okV V n=false):=Lib.hid (decide_eq_false fun h=>by
       have:=h i HL.out
       rw [hpg] at this;cases this)
      clear hpg hlj hj ht1 ht2
      generalize V i=v at *
      go_wp2_with (go_at_call 181;refine(HMA.out _).mono ?_;rintro e w7 ⟨rfl,rfl⟩)
      go_ret
      exact⟨by rw [HOV.out];rfl,i,HI.out,HWR.out,fun h=>by rw [HOV.out] at h;cases h⟩
  ·have hd:decide ((i:Int)<(n:Int))=false:=decide_eq_false (by omega)
   have HE:Hid (i=n):=Lib.hid (by have:=HI.out;omega)
   have HOV:Hid (okV V n=true):=Lib.hid (decide_eq_true fun j hj=>HOK.out j (by have:=HE.out;omega))
   have hd2:decide (i<n)=false:=decide_eq_false hlt
   go_wp2_with fail
   go_ret
   exact⟨by rw [HOV.out];rfl,i,HI.out,rfl,fun _=>HE.out⟩
end Go.Proofs.YtmbecjlioogbhaaGreatDoor.Tb
end
section
set_option maxRecDepth 20000
namespace Go.Proofs.YtmbecjlioogbhaaGreatDoor.Tb
open Go.Proofs.YtmbecjlioogbhaaGreatDoor.Bi
open Go.RowKit
def wholeE (n:Nat):Int:=if n<512 then 3 else if 512<n then 2 else 0
theorem whole_any (p:Option Addr) (n c:Nat) (w:World) (hn:n≤9223372036854775807):Calls Tryz.prog 188 #[.slice p n c] w fun e w'=>e = .returned (.int .i64 (wholeE n))∧w=w':=by
 unfold wholeE
 have hz:(n:Int)≤9223372036854775807:=by omega
 by_cases h:n<512
 ·have hd:decide ((n:Int)<512)=true:=decide_eq_true (by omega)
  have hd':decide (n<512)=true:=decide_eq_true h
  rw [if_pos h]
  have H:=Lib.hid h
  clear h hn
  go_enter Tryz.func188,Tryz.ntmps188
  go_wp2_with fail
  go_ret
  exact⟨rfl,rfl⟩
 ·have hd:decide ((n:Int)<512)=false:=decide_eq_false (by omega)
  have hd':decide (n<512)=false:=decide_eq_false h
  rw [if_neg h]
  by_cases h2:512<n
  ·have hd2:decide ((512:Int)<(n:Int))=true:=decide_eq_true (by omega)
   have hd2':decide (512<n)=true:=decide_eq_true h2
   rw [if_pos h2]
   clear h h2 hn
   go_enter Tryz.func188,Tryz.ntmps188
   go_wp2_with fail
   go_ret
   exact⟨rfl,rfl⟩
  ·have hd2:decide ((512:Int)<(n:Int))=false:=decide_eq_false (by omega)
   have hd2':decide (512<n)=false:=decide_eq_false h2
   rw [if_neg h2]
   clear h h2 hn
   go_enter Tryz.func188,Tryz.ntmps188
   go_wp2_with fail
   go_ret
   exact⟨rfl,rfl⟩
def loadE (i:Int) (bs:List Nat):Int:=if ¬ (0≤i∧i<4) then 7 else if wholeE bs.length≠0 then wholeE bs.length else if okV (valB bs) 128 then 0 else 4
def loadF (f:Nat→Nat) (i:Int) (bs:List Nat):Nat→Nat:=if loadE i bs=0 then over f (128*i.toNat) (valB bs) 0 128 else f
theorem wholeE_zero {n:Nat} (h:wholeE n=0):n=512:=by
 unfold wholeE at h
 split at h
 ·cases h
 ·split at h
  ·cases h
  ·omega
set_option maxRecDepth 100000 in
theorem load_not {w:World} {g:Nat} {f:Nat→Nat} (_:Tab w g f) (x:Int) (p:Option Addr) (n c:Nat) (bs:List Nat) (hB:Bys w p n bs) (hc:n≤c) (hc2:c≤9223372036854775807) (hx:¬ (0≤x∧x<4)∨wholeE n≠0) :
  Calls Tryz.prog 192 #[.pointer (some ⟨g,0,none⟩),.int .i64 x,.slice p n c] w fun e w'=>e = .returned (.int .i64 (loadE x bs))∧w=w':=by
 have hl:=hB.len
 unfold loadE
 rw [hl]
 by_cases hx0:0≤x∧x<4
 ·have hw:wholeE n≠0:=hx.resolve_left (not_not_intro hx0)
  rw [if_neg (not_not_intro hx0),if_pos hw]
  obtain⟨i,rfl⟩:=Int.eq_ofNat_of_zero_le hx0.1
  have HY:=Lib.hid (fun w'=>leaf_yes i g (by have:=hx0.2;omega) w')
  have HW:=Lib.hid (fun w=>whole_any p n c w (by omega))
  have hne:(wholeE n == 0)=false:=by simpa using hw
  clear hw hx hx0 hl hB hc hc2
  generalize wholeE n=z at *
  go_enter Tryz.func192,Tryz.ntmps192
  go_wp2_with (first
   | (go_at_call 175;refine(HY.out _).mono ?_;rintro e w7 ⟨rfl,rfl⟩)
   | (go_at_call 188;refine(HW.out _).mono ?_;rintro e w7 ⟨rfl,rfl⟩))
  go_ret
  exact⟨rfl,rfl⟩
 ·rw [if_pos hx0]
  have HY:=Lib.hid (leaf_no x g hx0)
  clear hx hx0 hl hB hc hc2
  go_enter Tryz.func192,Tryz.ntmps192
  go_wp2_with (go_at_call 175;refine(HY.out _).mono ?_;rintro e w7 ⟨rfl,rfl⟩)
  go_ret
  exact⟨rfl,rfl⟩
set_option maxRecDepth 100000 in
set_option maxHeartbeats 300000 in
theorem load_in {w:World} {g:Nat} {f:Nat→Nat} (h:Tab w g f) (i:Nat) (hi:i<4) (p:Option Addr) (c:Nat) (bs:List Nat) (hB:Bys w p 512 bs) (hc:512≤c) (hc2:c≤9223372036854775807) :
  Calls Tryz.prog 192 #[.pointer (some ⟨g,0,none⟩),.int .i64 (i:Int),.slice p 512 c] w fun e w'=>e = .returned (.int .i64 (loadE (i:Int) bs))∧Tab w' g (loadF f (i:Int) bs)∧Only g w w':=by
 have hl:=hB.len
 have HE:Hid (loadE (i:Int) bs=if okV (valB bs) 128 then 0 else 4):=Lib.hid (by
  unfold loadE
  rw [if_neg (not_not_intro ⟨by omega,by omega⟩),hl,if_neg (by decide)])
 have HF:Hid (loadF f (i:Int) bs=if okV (valB bs) 128=true then over f (128*i) (valB bs) 0 128 else f):=Lib.hid (by
  unfold loadF
  rw [HE.out,Int.toNat_natCast]
  cases okV (valB bs) 128 <;> rfl)
 have HY:=Lib.hid (fun w'=>leaf_yes i g hi w')
 have HW:=Lib.hid (fun w=>whole_any p 512 c w (by omega))
 obtain⟨hz,-⟩:=zero_of_info (P:=Tryz.prog) info184
 have HT:=Lib.hid h
 have HN:Hid (IsT (w.alloc (.cells (rowA (fun _=>0) 128) 184)) w.heap.size 184 (fun _=>0) 128):=Lib.hid (heap_alloc_new w _)
 have HB1:Hid (Below w.heap.size w (w.alloc (.cells (rowA (fun _=>0) 128) 184))):=Lib.hid ((Below.refl _ _).alloc (Nat.le_refl _) _)
 have HBy:=Lib.hid (hB.below HB1.out)
 have HLT:=Lib.hid (hB.lt (by omega))
 have HTK:=Lib.hid (take_any w.heap.size 128 128 512 c p bs _ (by omega) (by omega) (HN.out.there 0 128 (by omega)) HBy.out (by omega) hc hc2 (fun b o e=>by have:=HLT.out b o e;omega))
 have HOK:Hid (∀j,okV (valB bs) 128=true→j<128→pgN (valB bs j)=true):=Lib.hid fun j h hj=>of_decide_eq_true h j hj
 have hg1:=HT.out.lt
 have hiz:(i:Int)<4:=by omega
 have HI:=Lib.hid hi
 clear h hl hB hc hc2 hi HBy
 generalize rowA (fun _=>0) 128=Z at *
 generalize hW1:w.alloc (.cells Z 184)=W1 at *
 have HW1:=Lib.hid hW1
 clear hW1
 go_enter Tryz.func192,Tryz.ntmps192
 go_wp2_with (first
  | (go_at_call 175;refine(HY.out _).mono ?_;rintro e w7 ⟨rfl,rfl⟩)
  | (go_at_call 188;refine(HW.out _).mono ?_;rintro e w7 ⟨rfl,rfl⟩))
 rw [HW1.out]
 refine HTK.out.mono ?_
 rintro e w8 ⟨rfl,k,hk,hw8,hfull⟩
 have HW8:=Lib.hid hw8
 have HK:=Lib.hid hfull
 clear hk hw8 hfull HTK
 have HO8:Hid (Only w.heap.size W1 w8):=Lib.hid (by rw [HW8.out];exact only_segs _ _ _ _)
 have HB8:Hid (Below w.heap.size w w8):=Lib.hid (HO8.out.below HB1.out HB1.out.size (Nat.le_refl _))
 have HT8:Hid (Tab w8 g f):=Lib.hid (HT.out.below HB8.out)
 cases hok:okV (valB bs) 128 with
 | false=>
  rw [hok] at HE HF
  clear hok
  go_wp2_with fail
  go_ret
  refine⟨by rw [HE.out];rfl,?_,Only.of_below HB8.out⟩
  rw [HF.out,if_neg (by decide)];exact HT8.out
 | true=>
  have HX:Hid (w8.rangeAt w.heap.size 0 (ints (valB bs) 0 128)):=Lib.hid (by
   have h1:=IsT.segs (v:=valB bs) 128 0 0 _ _ HN.out
   rw [HK.out hok] at HW8
   rw [HW8.out]
   have h2:=h1.range 0 128 (by omega)
   rwa [ints_congr (f:=over (fun _=>0) 0 (valB bs) 0 128) (g:=valB bs) (a:=0) (b:=0) (fun j hj=>over_in _ _ _ _ _ _ hj)] at h2)
  have HTH:Hid (w8.there g (i*128) 128):=Lib.hid (HT8.out.row.there _ _ (by have:=HI.out;omega))
  have HFin:Hid (Tab (w8.drew.setCells g (i*128) (ints (valB bs) 0 128)) g (loadF f (i:Int) bs)):=Lib.hid (by
   rw [HF.out,hok,if_pos rfl,Nat.mul_comm 128 i]
   exact⟨IsT.segs 128 (i*128) 0 f w8.drew HT8.out.drew.row,HT8.out.ok.over _ _ _ fun j hj=>by rw [Nat.zero_add];exact HOK.out j hok hj⟩)
  have HOF:Hid (Only g w (w8.drew.setCells g (i*128) (ints (valB bs) 0 128))):=Lib.hid ((Only.of_below HB8.out.drew).trans (only_segs _ _ _ _))
  have HS:Hid ((Tryz.prog.info? 184).map (·.size)=some (ints (valB bs) 0 128).length):=Lib.hid (by rw [size184,ints_len])
  have HS2:Hid ((Tryz.prog.info? 184).map (·.size)=some (ints (valB bs) 0 128).toArray.size):=Lib.hid (by rw [size184];simp [ints_len])
  have HLN:Hid ((ints (valB bs) 0 128).toArray.size=128):=Lib.hid (by simp [ints_len])
  have H1:=Lib.hid (all_oneCell_toArray (ints_one (valB bs) 0 128))
  rw [hok] at HE HF
  clear hok
  generalize ints (valB bs) 0 128=X at *
  go_wp2_with fail
  refine wp_region_held_drew (S:=fun w'=>w'.rangeAt w.heap.size 0 X∧w'.there g (i*128) 128) (by kernel_rfl) ⟨(World.rangeAt_drew _ _ _ _).2 HX.out,(World.there_drew _ _ _ _).2 HTH.out⟩ (fun hS=>?_)
  refine wpAnyH_take (i:=0) (v:=.pointer (some ⟨g,0,none⟩)) rfl (by kernel_rfl) (by kernel_rfl) (by kernel_rfl) (fun _ _ _ h=>h) (Or.inl ⟨by rfl,fun w _=>by go_simp⟩) hS ?_
  refine wpAnyH_take (i:=1) (v:=.int .i64 (i:Int)) rfl (by kernel_rfl) (by kernel_rfl) (by kernel_rfl) (fun _ _ _ h=>h) (Or.inl ⟨by rfl,fun w _=>by go_simp⟩) hS ?_
  refine wpAnyH_take (i:=2) (v:=.agg X.toArray) rfl (by kernel_rfl) (by kernel_rfl) (by kernel_rfl) (fun _ _ _ h=>h) (yieldsIf_load_mid rfl 184 (.tmp 8) rfl w.heap.size 0 rfl X _ (fun w h=>h.1) Tryz.underlying184 rfl HS.out) hS ?_
  refine wpAnyH_take (i:=3) (v:=.pointer (some ⟨g,0,none⟩)) rfl (by kernel_rfl) (by kernel_rfl) (by kernel_rfl) (fun _ _ _ h=>h) (Or.inl ⟨by rfl,fun w _=>by go_simp⟩) hS ?_
  refine wpAnyH_take (i:=4) (v:=.pointer (some ⟨g,0,none⟩)) rfl (by kernel_rfl) (by kernel_rfl) (by kernel_rfl) (fun _ _ _ h=>h) (Or.inl ⟨by rfl,fun w _=>by go_simp⟩) hS ?_
  refine wpAnyH_take (i:=5) (v:=.pointer (some ⟨g,i*128,none⟩)) rfl (by kernel_rfl) (by kernel_rfl) (by kernel_rfl) (fun _ _ _ h=>h) (Or.inl ⟨by rfl,fun w _=>by go_simp⟩) hS ?_
  simp only [List.getElem_toArray,List.getElem_cons_succ,List.getElem_cons_zero,Act.put,List.setIfInBounds_toArray,List.set_cons_succ,List.set_cons_zero]
  refine wpAnyH_ready (rs:=[6]) (by kernel_rfl) (by simp) ?_
  refine AllReadyH.cons rfl (fun K hK=>?_) AllReadyH.nil
  rw [if_pos (by rfl)]
  simp only [List.getElem_toArray,List.getElem_cons_succ,List.getElem_cons_zero,Act.put,List.setIfInBounds_toArray,List.set_cons_succ,List.set_cons_zero]
  refine wp_store_mid 184 (.tmp 31) (.tmp 28) ?sa g (i*128) X.toArray ?sb ?sc ?sd HS2.out H1.out ?se
  case sa=>exact rfl
  case sb=>exact rfl
  case sc=>exact rfl
  case sd=>rw [HLN.out];exact hS.2
  refine hK.out _ _ ⟨World.rangeAt_setCells_apart hS.1 _ _ _ (.inl (by omega)),World.there_setCells hS.2 _ _ _⟩ fun _=>?_
  refine wpAnyH_done (by kernel_rfl) ?_ _
  clear hK K
  go_wp2_with fail
  go_ret
  exact⟨by rw [HE.out,if_pos trivial];rfl,HFin.out,HOF.out⟩
theorem load_any {w:World} {g:Nat} {f:Nat→Nat} (h:Tab w g f) (x:Int) (p:Option Addr) (n c:Nat) (bs:List Nat) (hB:Bys w p n bs) (hc:n≤c) (hc2:c≤9223372036854775807) :
  Calls Tryz.prog 192 #[.pointer (some ⟨g,0,none⟩),.int .i64 x,.slice p n c] w fun e w'=>e = .returned (.int .i64 (loadE x bs))∧Tab w' g (loadF f x bs)∧Only g w w':=by
 by_cases hx:¬ (0≤x∧x<4)∨wholeE n≠0
 ·refine(load_not h x p n c bs hB hc hc2 hx).mono ?_
  rintro e w' ⟨rfl,rfl⟩
  refine⟨rfl,?_,Only.refl _ _⟩
  have:loadE x bs≠0:=by
   unfold loadE
   rw [hB.len]
   rcases hx with hx | hx
   ·rw [if_pos hx];decide
   ·by_cases hx0:0≤x∧x<4
    ·rw [if_neg (not_not_intro hx0),if_pos hx];exact hx
    ·rw [if_pos hx0];decide
  unfold loadF
  rw [if_neg this];exact h
 ·have h1:0≤x∧x<4:=Classical.not_not.1 fun h=>hx (.inl h)
  have h2:n=512:=wholeE_zero (Classical.not_not.1 fun h=>hx (.inr h))
  subst h2
  obtain⟨i,rfl⟩:=Int.eq_ofNat_of_zero_le h1.1
  exact load_in h i (by omega) p c bs hB hc hc2
end Go.Proofs.YtmbecjlioogbhaaGreatDoor.Tb
end
section
set_option maxRecDepth 20000
namespace Go.Proofs.YtmbecjlioogbhaaGreatDoor.Tb
open Go.Proofs.YtmbecjlioogbhaaGreatDoor.Bi
open Go.RowKit
def allZ (bs:List Nat) (n:Nat):Bool:=decide (∀j,j<n→bs.getD j 0=0)
set_option maxRecDepth 100000 in
set_option maxHeartbeats 800000 in
theorem zeros_any (p:Option Addr) (n c:Nat) (bs:List Nat) (w:World) (hB:Bys w p n bs) (hn:n≤1099511627776) :
  Calls Tryz.prog 190 #[.slice p n c] w fun e w'=>e = .returned (.bool (allZ bs n))∧w=w':=by
 have HB:=Lib.hid hB
 have hnz:(n:Int)≤1099511627776:=by omega
 clear hB hn
 go_enter Tryz.func190,Tryz.ntmps190
 go_wp2_with fail
 go_loop [7] (fun iv=>∃i:Nat,i≤n∧iv = .int .i64 (i:Int)∧∀j,j<i→bs.getD j 0=0) (fun iv=>n - (RowKit.intOf iv).toNat)
 case atStart=>exact⟨0,by omega,by go_num,fun j hj=>absurd hj (Nat.not_lt_zero j)⟩
 case round=>
  obtain⟨i,hi,rfl,hz⟩:=hrel
  have HZ:=Lib.hid hz
  clear hz
  by_cases hlt:i<n
  ·obtain⟨b,o,rfl,hc⟩:=HB.out.at (by omega)
   have hcell:=hc i hlt
   have hd:decide ((i:Int)<(n:Int))=true:=decide_eq_true (by omega)
   have HL:=Lib.hid hlt
   have hin:i<n:=hlt
   clear hc hlt hi
   by_cases h0:bs.getD i 0=0
   ·rw [h0] at hcell
    have HN:Hid (∀j,j<i+1→bs.getD j 0=0):=Lib.hid fun j hj=>by
     by_cases e:j=i
     ·rw [e];exact h0
     ·exact HZ.out j (by omega)
    clear h0
    go_wp2_with fail
    go_round
    case rel=>exact⟨i+1,by have:=HL.out;omega,by go_num,HN.out⟩
    case measure=>have:=HL.out;simp [RowKit.intOf];omega
   ·have HA:Hid (allZ bs n=false):=Lib.hid (decide_eq_false fun h=>h0 (h i HL.out))
    have hne:(((bs.getD i 0:Nat):Int) != 0)=true:=by simpa using h0
    clear h0
    generalize bs.getD i 0=y at *
    go_wp2_with fail
    go_ret
    exact⟨by rw [HA.out];rfl,rfl⟩
  ·have hd:decide ((i:Int)<(n:Int))=false:=decide_eq_false (by omega)
   have hd2:decide (i<n)=false:=decide_eq_false hlt
   have HA:Hid (allZ bs n=true):=Lib.hid (decide_eq_true fun j hj=>HZ.out j (by omega))
   clear hi
   go_wp2_with fail
   go_ret
   exact⟨by rw [HA.out];rfl,rfl⟩
def lvF (x y z u:Int):Nat→Nat
 | 0=>x.toNat
 | 1=>y.toNat
 | 2=>z.toNat
 | 3=>u.toNat
 | _=>0
def okL (x y z u:Int):Bool:=mayI x && mayI y && mayI z && mayI u
theorem mayI_nn {x:Int} (h:mayI x=true):0≤x∧x<512:=by
 unfold mayI pgI at h
 simp only [Bool.or_eq_true,beq_iff_eq,Bool.and_eq_true,decide_eq_true_eq] at h
 omega
theorem okL_nat {x y z u:Int} (h:okL x y z u=true):(0≤x∧x<512)∧(0≤y∧y<512)∧(0≤z∧z<512)∧(0≤u∧u<512):=by
 unfold okL at h
 simp only [Bool.and_eq_true] at h
 exact⟨mayI_nn h.1.1.1,mayI_nn h.1.1.2,mayI_nn h.1.2,mayI_nn h.2⟩
theorem lvF_lt {x y z u:Int} (h:okL x y z u=true) (j:Nat):lvF x y z u j<512:=by
 obtain⟨h1,h2,h3,h4⟩:=okL_nat h
 unfold lvF
 split <;> omega
def dirB (x y z u:Int) (f:Nat→Bool):List Nat:=fours (lvF x y z u) 4++rowF f 64++List.replicate 432 0
theorem dirB_len (x y z u:Int) (f:Nat→Bool):(dirB x y z u f).length=512:=by
 unfold dirB;rw [List.length_append,List.length_append,fours_len,rowF_len,List.length_replicate]
theorem dirB_dig {x y z u:Int} (h:okL x y z u=true) (f:Nat→Bool):∀b∈dirB x y z u f,b<256:=
 dig_append (dig_append (fours_dig (lvF_lt h) 4) (rowF_dig _ _)) (by intro b hb;rw [List.mem_replicate] at hb;omega)
end Go.Proofs.YtmbecjlioogbhaaGreatDoor.Tb
end
section
set_option maxRecDepth 20000
namespace Go.Proofs.YtmbecjlioogbhaaGreatDoor.Bi
open Go.RowKit
theorem or_any (x y:Nat) (w:World) (hx:x<256) (hy:y<256):Calls Tryz.prog 236 #[.int .u8 (x:Int),.int .u8 (y:Int)] w fun e w'=>e = .returned (.int .u8 ((x ||| y:Nat):Int))∧w=w':=by
 have h:=u8_or_nat x y hx hy
 go_enter Tryz.func236,Tryz.ntmps236
 go_wp2_with fail
 go_ret
 exact⟨rfl,rfl⟩
def both (t:Bool) (f k:Nat→Bool):Nat→Bool:=fun i=>if t then f i || k i else f i && !k i
def join (t:Bool) (x y:Nat):Nat:=if t then x ||| y else x &&& (255 - y)
theorem not_bit (y k:Nat) (hy:y<256) (hk:k<8):(255 - y).testBit k = !y.testBit k:=by
 have:∀(y:Fin 256) (k:Fin 8),(255 - y.val).testBit k.val = !y.val.testBit k.val:=by decide +kernel
 exact this ⟨y,hy⟩ ⟨k,hk⟩
theorem byt_join (t:Bool) (f k:Nat→Bool) (j:Nat):join t (byt f j) (byt k j)=byt (both t f k) j:=by
 apply Nat.eq_of_testBit_eq
 intro i
 unfold join
 rw [byt_bit]
 unfold both
 by_cases hi:i<8
 ·rw [decide_eq_true hi,Bool.true_and]
  cases t
  ·simp only [Bool.false_eq_true,if_false]
   rw [Nat.testBit_and,not_bit _ _ (byt_lt _ _) hi,byt_bit,byt_bit,decide_eq_true hi,Bool.true_and,Bool.true_and]
  ·simp only [if_true]
   rw [Nat.testBit_or,byt_bit,byt_bit,decide_eq_true hi,Bool.true_and,Bool.true_and]
 ·rw [decide_eq_false hi,Bool.false_and]
  cases t
  ·simp only [Bool.false_eq_true,if_false]
   rw [Nat.testBit_and,byt_bit,decide_eq_false hi,Bool.false_and,Bool.false_and]
  ·simp only [if_true]
   rw [Nat.testBit_or,byt_bit,byt_bit,decide_eq_false hi];rfl
set_option maxHeartbeats 1600000 in
theorem same_any {w:World} {g b n g2 b2 m:Nat} {f k:Nat→Bool} (h:Sat w g b n f) (h2:Sat w g2 b2 m k) :
  Calls Tryz.prog 150 #[.pointer (some ⟨g,0,none⟩),.pointer (some ⟨g2,0,none⟩)] w fun e w'=>e = .returned (.bool (decide (n=m∧rowF f (need n)=rowF k (need m))))∧Below w.heap.size w w':=by
 have l0:∀s:In w,s.1.cell? ⟨g,0,none⟩=some (.int .i64 (n:Int)):=fun s=>(h.below s.2).c0
 have l1:∀s:In w,s.1.cell? ⟨g,1,none⟩=some (.slice (some ⟨b,0,none⟩) (need n) (need n)):=fun s=>(h.below s.2).c1
 have l2:∀s:In w,s.1.cell? ⟨g2,0,none⟩=some (.int .i64 (m:Int)):=fun s=>(h2.below s.2).c0
 have l3:∀s:In w,s.1.cell? ⟨g2,1,none⟩=some (.slice (some ⟨b2,0,none⟩) (need m) (need m)):=fun s=>(h2.below s.2).c1
 have HE:Hid (∀s:In w,Calls Tryz.prog 193 #[.slice (some ⟨b,0,none⟩) (need n) (need n),.slice (some ⟨b2,0,none⟩) (need m) (need m)] s.1 fun e w'=>e = .returned (.bool (decide (rowF f (need n)=rowF k (need m))))∧s.1=w'):=Lib.hid fun s=>equal_any _ _ _ _ _ _ _ _ _ (h.below s.2).bys (h2.below s.2).bys
 clear h h2
 have hne:=In.some w
 by_cases hnm:n=m
 ·have he:((n:Int) == (m:Int))=true:=by rw [hnm];simp
  have hd:decide (n=m∧rowF f (need n)=rowF k (need m))=decide (rowF f (need n)=rowF k (need m)):=by
   by_cases hr:rowF f (need n)=rowF k (need m)
   ·rw [decide_eq_true hr,decide_eq_true ⟨hnm,hr⟩]
   ·rw [decide_eq_false hr,decide_eq_false (fun h=>hr h.2)]
  rw [hd]
  generalize decide (rowF f (need n)=rowF k (need m))=v at *
  clear hnm hd
  go_enter Tryz.func150,Tryz.ntmps150
  go_upto_region 3 with fail
  refine region_in w (by kernel_rfl) (by kernel_rfl) (Below.refl _ _) ?_
  repeat (go_big_quiet_step ((go_at_call 193;exact Calls.quiet_in_same (HE.out _))))
  refine wpQuiet_nil ?_
  intro w12 hw'
  have hb12:Below w.heap.size w w12:=by
   obtain⟨⟨wz,hbz⟩,hw''⟩:=hw'
   subst hw''
   exact hbz
  clear hw'
  go_wp2_with fail
  go_ret
  exact⟨rfl,hb12⟩
 ·have he:((n:Int) == (m:Int))=false:=by simp;omega
  rw [decide_eq_false (fun h=>hnm h.1)]
  clear hnm HE
  go_enter Tryz.func150,Tryz.ntmps150
  go_upto_region 3 with fail
  refine region_in w (by kernel_rfl) (by kernel_rfl) (Below.refl _ _) ?_
  repeat (go_big_quiet_step (fail))
  refine wpQuiet_nil ?_
  intro w12 hw'
  have hb12:Below w.heap.size w w12:=by
   obtain⟨⟨wz,hbz⟩,hw''⟩:=hw'
   subst hw''
   exact hbz
  clear hw'
  go_wp2_with fail
  go_ret
  exact⟨rfl,hb12⟩
end Go.Proofs.YtmbecjlioogbhaaGreatDoor.Bi
end
