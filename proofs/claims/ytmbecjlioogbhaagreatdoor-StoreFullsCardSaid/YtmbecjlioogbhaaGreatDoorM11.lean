/- Texts PPage to YParts of this seat, laid into one. -/
import Derived.Maps.RangeWalk
import Derived.Lib.SlKeysI
import Derived.Test.YtmbecjlioogbhaaGreatDoorM05
import Derived.Test.YtmbecjlioogbhaaGreatDoorM10
set_option linter.unusedVariables false
set_option linter.unusedSimpArgs false
set_option linter.constructorNameAsVariable false
namespace Go.Proofs.YtmbecjlioogbhaaGreatDoor
section
set_option maxRecDepth 20000
open Go.RowKit
def pageB (L:List (List Nat)) (p:Nat):List Nat:=cat (fun j=>sec L (4*p+j)) 4
theorem strB_app (a b:List Nat):strB (a++b)=strB a++strB b:=list_eq (by rw [ByteArray.data_append,Array.toList_append,strB_list,strB_list,strB_list,List.map_append])
set_option maxHeartbeats 800000 in
theorem readPage_up {w:World} {g:Nat} {F:List Nat} {m:Dsk} (h:Dk w g F m) (p:Nat) (hd:m.down=false) (hp:4*p+4≤m.out.length) (hl:m.out.length≤2048) :
  Calls Tryz.prog 78 #[.pointer (some ⟨g,0,none⟩),.int .i64 (p:Int)] w fun e w'=>e = .returned (.tuple #[.string (strB (pageB m.last p)),.int .i64 0])∧w=w':=by
 have HR:Hid (∀i:Nat,i<4→Calls Tryz.prog 127 #[.pointer (some ⟨g,0,none⟩),.int .i64 ((p:Int)*4+(i:Int))] w fun e w'=>e = .returned (.tuple #[.string (strB (sec m.last (4*p+i))),.int .i64 0])∧w=w'):=Lib.hid fun i hi=>by
  have h2:=h.read ((p:Int)*4+(i:Int))
  have hh:m.has ((p:Int)*4+(i:Int))=true:=has_true (by omega) (by omega)
  have e1:readE m ((p:Int)*4+(i:Int))=0:=by unfold readE;rw [if_neg (by simp [hd]),if_neg (by simp [hh])]
  have e2:readS m ((p:Int)*4+(i:Int))=sec m.last (4*p+i):=by
   unfold readS;rw [if_neg (by simp [hd]),if_neg (by simp [hh])]
   congr 1;omega
  rwa [e1,e2] at h2
 have HS:Hid (∀i:Nat,i<4→(strB (sec m.last (4*p+i))).size=128):=Lib.hid fun i hi=>by
  rw [strB_size]
  exact(h.ok.last _ (sec_mem (by rw [last_len];omega))).1
 have hp2:p≤512:=by omega
 have HQ:Hid (pageB m.last p=cat (fun j=>sec m.last (4*p+j)) 4):=Lib.hid rfl
 clear h hd hp hl
 go_enter Tryz.func78,Tryz.ntmps78
 go_wp2_with fail
 go_loop [6,10] (fun sv iv=>∃i:Nat,i≤4∧iv = .int .i64 (i:Int)∧sv = .string (strB (cat (fun j=>sec m.last (4*p+j)) i))∧(strB (cat (fun j=>sec m.last (4*p+j)) i)).size=i*128) (fun _ iv=>4 - (RowKit.intOf iv).toNat)
 case atStart=>exact⟨0,by omega,by go_num,rfl,rfl⟩
 case round=>
  obtain⟨i,hi4,rfl,rfl,hsz⟩:=hrel
  by_cases hlt:i<4
  ·have HC:Hid (strB (cat (fun j=>sec m.last (4*p+j)) i)++strB (sec m.last (4*p+i))=strB (cat (fun j=>sec m.last (4*p+j)) (i+1))):=Lib.hid (strB_app _ _).symm
   have hs2:=HS.out i hlt
   have HR2:=Lib.hid (HR.out i hlt)
   have HZ:Hid ((strB (cat (fun j=>sec m.last (4*p+j)) (i+1))).size=(i+1)*128):=Lib.hid (by rw [←HC.out,ByteArray.size_append,hsz,hs2];omega)
   generalize strB (cat (fun j=>sec m.last (4*p+j)) i)=A at *
   generalize strB (sec m.last (4*p+i))=B at *
   obtain⟨C,hC⟩:∃C,strB (cat (fun j=>sec m.last (4*p+j)) (i+1))=C:=⟨_,rfl⟩
   rw [hC] at HC HZ
   have HC3:=Lib.hid hC
   clear hC
   have hsum:A.size+B.size≤9223372036854775807:=by omega
   go_wp2_with (go_at_call 127;refine HR2.out.mono ?_;rintro e w7 ⟨rfl,rfl⟩)
   go_round
   case rel=>exact⟨i+1,by omega,by go_num,by rw [HC.out,HC3.out],by rw [HC3.out];exact HZ.out⟩
   case measure=>simp [RowKit.intOf];omega
  ·have HI:Hid (i=4):=Lib.hid (by omega)
   have hd4:decide ((i:Int)<4)=false:=decide_eq_false (by omega)
   have hd5:decide (i<4)=false:=decide_eq_false (by omega)
   have HA:Hid (strB (pageB m.last p)=strB (cat (fun j=>sec m.last (4*p+j)) i)):=Lib.hid (by rw [HQ.out,HI.out])
   clear hlt hi4 hsz
   obtain⟨A,hA⟩:∃A,strB (cat (fun j=>sec m.last (4*p+j)) i)=A:=⟨_,rfl⟩
   rw [hA] at HA ⊢
   clear hA
   go_wp2_with fail
   go_ret2
   exact⟨by rw [HA.out];rfl,rfl⟩
def wpE (m:Dsk) (p:Nat) (b:List Nat):Nat→Dsk × Int
 | 0=>(m,0)
 | i+1=>if (wpE m p b i).2≠0 then wpE m p b i else (putM (wpE m p b i).1 ((4*p+i:Nat):Int) ((b.drop (i*128)).take 128),putE (wpE m p b i).1 ((4*p+i:Nat):Int) ((b.drop (i*128)).take 128))
theorem put_bounds (m:Dsk) (i:Int) (s:List Nat):(putM m i s).done≤m.done+1∧(putM m i s).row.length≤m.row.length+1∧(putM m i s).out=m.out:=by
 unfold putM burns burnt
 repeat' split
 all_goals first | exact⟨by omega,by omega,rfl⟩ | exact⟨by show m.done≤_;omega,by show m.row.length≤_;omega,rfl⟩ | exact⟨by show m.done+1≤_;omega,by show (m.row++_).length≤_;simp,rfl⟩
theorem wpE_bounds (m:Dsk) (p:Nat) (b:List Nat) (i:Nat):(wpE m p b i).1.done≤m.done+i∧(wpE m p b i).1.row.length≤m.row.length+i∧(wpE m p b i).1.out=m.out:=by
 induction i with
 | zero=>exact⟨by simp [wpE],by simp [wpE],rfl⟩
 | succ i ih=>
  unfold wpE
  split
  ·exact⟨by omega,by omega,ih.2.2⟩
  ·have:=put_bounds (wpE m p b i).1 ((4*p+i:Nat):Int) ((b.drop (i*128)).take 128)
   exact⟨Nat.le_trans this.1 (by omega),Nat.le_trans this.2.1 (by omega),this.2.2.trans ih.2.2⟩
set_option maxHeartbeats 1600000 in
theorem writePage_any {w:World} {g:Nat} {F:List Nat} {m:Dsk} (h:Dk w g F m) (p:Nat) (b:List Nat) (hb:b.length=512) (hdig:∀x∈b,x<256) (hp2:p≤512) (hdn:m.done≤4611686018427387000) (hrl:m.row.length≤1099511627000) :
  Calls Tryz.prog 144 #[.pointer (some ⟨g,0,none⟩),.int .i64 (p:Int),.string (strB b)] w fun e w'=>e = .returned (.int .i64 (wpE m p b 4).2)∧Went F g (wpE m p b 4).1 w w':=by
 have HD:=Lib.hid h
 have HN:=Lib.hid hdn
 have HL:=Lib.hid hrl
 have HX:Hid (∀i,i<4→(strB b).extract (i*128) 512=strB (b.drop (i*128))∧(strB (b.drop (i*128))).size=512 - i*128∧(strB (b.drop (i*128))).extract 0 128=strB ((b.drop (i*128)).take 128)):=Lib.hid fun i hi=>by
  have h1:=(IsS.mk_ b hdig).ext (i*128) 512
  have e1:(b.drop (i*128)).take (512 - i*128)=b.drop (i*128):=List.take_of_length_le (by rw [List.length_drop];omega)
  rw [e1] at h1
  have h2:=(IsS.mk_ (b.drop (i*128)) (fun x hx=>hdig x (List.mem_of_mem_drop hx))).ext 0 128
  refine⟨h1.eq,by rw [strB_size,List.length_drop];omega,?_⟩
  have e2:=h2.eq
  rwa [List.drop_zero,Nat.sub_zero] at e2
 have hsz:(strB b).size=512:=by rw [strB_size];exact hb
 have HG:Hid (∀i,∀x∈(b.drop (i*128)).take 128,x<256):=Lib.hid fun i x hx=>hdig x (List.mem_of_mem_drop (List.mem_of_mem_take hx))
 clear h hb hdig hdn hrl
 obtain⟨S,hS⟩:∃S,strB b=S:=⟨_,rfl⟩
 rw [hS] at hsz HX ⊢
 clear hS
 go_enter Tryz.func144,Tryz.ntmps144
 go_wp2_with fail
 go_loopw [10] (fun iv wr=>∃i:Nat,i≤4∧iv = .int .i64 (i:Int)∧Hid ((wpE m p b i).2=0)∧Hid (Went F g (wpE m p b i).1 w wr)) (fun iv _=>4 - (RowKit.intOf iv).toNat)
 case atStart=>exact⟨0,by omega,by go_num,Lib.hid rfl,Lib.hid (Went.refl HD.out)⟩
 case round=>
  obtain⟨i,hi4,rfl,HE,HW⟩:=hrel
  by_cases hlt:i<4
  ·obtain⟨F1,hD1,hC1⟩:=HW.out
   have hbd:=wpE_bounds m p b i
   obtain⟨x1,x2,x3⟩:=HX.out i hlt
   have HP:Hid (Calls Tryz.prog 183 #[.pointer (some ⟨g,0,none⟩),.int .i64 ((p:Int)*4+(i:Int)),.string (strB ((b.drop (i*128)).take 128))] wr fun e w'=>e = .returned (.int .i64 (wpE m p b (i+1)).2)∧Went F g (wpE m p b (i+1)).1 w w'):=Lib.hid (by
    have h1:=put_any hD1 ((4*p+i:Nat):Int) ((b.drop (i*128)).take 128) (HG.out i) (by have:=HN.out;omega) (by have:=HL.out;omega)
    have e1:wpE m p b (i+1)=(putM (wpE m p b i).1 ((4*p+i:Nat):Int) ((b.drop (i*128)).take 128),putE (wpE m p b i).1 ((4*p+i:Nat):Int) ((b.drop (i*128)).take 128)):=by
     show (if (wpE m p b i).2≠0 then _ else _)=_
     rw [if_neg (by rw [HE.out];simp)]
    rw [e1,show (p:Int)*4+(i:Int)=((4*p+i:Nat):Int) by omega]
    refine h1.mono ?_
    rintro e w' ⟨rfl,F2,hD2,hC2⟩
    exact⟨rfl,F2,hD2,hC1.trans hC2⟩)
   have HS:Hid (Went F g (wpE m p b (i+1)).1 w wr→True):=Lib.hid fun _=>trivial
   have HZ:Hid ((wpE m p b (i+1)).2≠0→wpE m p b 4=wpE m p b (i+1)):=Lib.hid (by
    intro hne
    have:∀j,(wpE m p b j).2≠0→wpE m p b (j+1)=wpE m p b j:=fun j hj=>by
     show (if (wpE m p b j).2≠0 then _ else _)=_
     rw [if_pos hj]
    obtain rfl | rfl | rfl | rfl:i=0∨i=1∨i=2∨i=3:=by omega
    ·rw [this 3 (by rw [this 2 (by rw [this 1 hne];exact hne),this 1 hne];exact hne),this 2 (by rw [this 1 hne];exact hne),this 1 hne]
    ·rw [this 3 (by rw [this 2 hne];exact hne),this 2 hne]
    ·rw [this 3 hne]
    ·rfl)
   clear hD1 hC1 hbd HE HW
   generalize strB ((b.drop (i*128)).take 128)=T at *
   generalize strB (b.drop (i*128))=U at *
   obtain⟨E,hE⟩:∃E,(wpE m p b (i+1)).2=E:=⟨_,rfl⟩
   rw [hE] at HP HZ
   have HEE:=Lib.hid hE
   clear hE
   by_cases h0:E=0
   ·subst h0
    go_wp2_with (go_at_call 183;refine HP.out.mono ?_;rintro e w7 ⟨rfl,hW7⟩)
    go_roundw
    case rel=>exact⟨i+1,by omega,by go_num,HEE,Lib.hid hW7⟩
    case measure=>simp [RowKit.intOf];omega
   ·have hb0:(E == 0)=false:=by simpa using h0
    go_wp2_with (go_at_call 183;refine HP.out.mono ?_;rintro e w7 ⟨rfl,hW7⟩)
    go_ret
    rw [HZ.out h0,HEE.out]
    exact⟨rfl,hW7⟩
  ·have HI:Hid (i=4):=Lib.hid (by omega)
   have hd4:decide ((i:Int)<4)=false:=decide_eq_false (by omega)
   have hd5:decide (i<4)=false:=decide_eq_false (by omega)
   clear hlt hi4
   go_wp2_with fail
   go_ret
   rw [←HI.out,HE.out]
   exact⟨rfl,HW.out⟩
end
section
set_option maxRecDepth 20000
open Go.RowKit
def rdV (m:Dsk) (s:Sp) (x:Int):Option (List Nat):=
 match s.fr.at_ x with
 | some b=>some b
 | none=>if Tb.getI s.kp x=0 then none else some (pageB m.last (Tb.getI s.kp x))
def KpOk (m:Dsk) (s:Sp):Prop:=∀l,s.kp l≠0→4*s.kp l+4≤m.out.length
section
variable {w:World} {g d pt pk mb:Nat} {pu po:Option Addr} {s:Sp}
set_option maxHeartbeats 800000 in
theorem read_sp (h:Spc0 w g d pt pk mb pu po s) {F:List Nat} {m:Dsk} (hD:Dk w d F m) (hd:m.down=false) (hl:m.out.length≤2048) (hk:KpOk m s) (x:Int) (h0:-9223372036854775808≤x) (h1:x≤9223372036854775807) :
  Calls Tryz.prog 35 #[.pointer (some ⟨g,0,none⟩),.int .i64 x] w fun e w'=>e = .returned (.tuple #[.string (strB ((rdV m s x).getD [])),.int .i64 (if (rdV m s x).isSome then 0 else 5)])∧Below w.heap.size w w':=by
 have c13:=h.c13
 have HL:=h.map.look x h0 h1
 have HR:=Lib.hid (refusal_any h)
 have HA:=Lib.hid (alloc_below w (.cells #[.string (strB ((s.fr.at_ x).getD []))] 134))
 have d12:=(h.below HA.out).c12
 have d0:=(h.below HA.out).c0
 have HG:=Lib.hid (Tb.get_any ((h.below HA.out).kep) x)
 have HD:=Lib.hid (hD.below HA.out)
 have HK:Hid (Tb.getI s.kp x≠0→4*Tb.getI s.kp x+4≤m.out.length):=Lib.hid (by
  unfold Tb.getI
  split
  ·exact hk _
  ·intro e;exact absurd rfl e)
 clear h h0 h1 hD hk
 cases hf:s.fr.at_ x with
 | some b=>
  have hv:rdV m s x=some b:=by unfold rdV;rw [hf]
  rw [hf] at HL HA HG HD d12 d0
  rw [hv]
  simp only [Option.getD_some,Option.isSome_some,if_true] at HL ⊢
  change Hid (Below w.heap.size w (w.alloc (.cells #[.string (strB b)] 134))) at HA
  have k0:(w.alloc (.cells #[.string (strB b)] 134)).cell? ⟨w.heap.size,0,none⟩=some (.string (strB b)):=World.cell?_alloc_new w _ _ 0
  clear HG HD d12 d0 hf HK hd hl hv
  generalize strB b=S at *
  go_enter Tryz.func35,Tryz.ntmps35
  go_wp2_with (go_at_call 47;refine HR.out.mono ?_;rintro e w7 ⟨rfl,rfl⟩)
  go_ret2
  exact⟨rfl,HA.out⟩
 | none=>
  have hv:rdV m s x=if Tb.getI s.kp x=0 then none else some (pageB m.last (Tb.getI s.kp x)):=by unfold rdV;rw [hf]
  rw [hf] at HL HA HG HD d12 d0
  simp only [Option.getD_none,Option.isSome_none] at HL HA HG HD d12 d0
  rw [hv]
  clear hv hf
  by_cases hz:Tb.getI s.kp x=0
  ·rw [hz] at HG
   rw [if_pos hz]
   simp only [Option.getD_none,Option.isSome_none,Bool.false_eq_true,if_false]
   clear hz HK hd hl HD
   have e0:strB []=⟨#[]⟩:=rfl
   rw [e0] at *
   go_enter Tryz.func35,Tryz.ntmps35
   go_wp2_with (first | (go_at_call 47;refine HR.out.mono ?_;rintro e w7 ⟨rfl,rfl⟩) | (go_at_call 77;refine HG.out.mono ?_;rintro e w7 ⟨rfl,rfl⟩))
   go_ret2
   exact⟨rfl,HA.out⟩
  ·have hb0:(Tb.getI s.kp x == 0)=false:=by simpa using hz
   rw [hb0] at HG
   rw [if_neg hz]
   simp only [Option.getD_some,Option.isSome_some,if_true]
   have HP:=Lib.hid (readPage_up HD.out (Tb.getI s.kp x) hd (HK.out hz) hl)
   have e0:strB []=⟨#[]⟩:=rfl
   rw [e0] at *
   clear hz HK hd hl hb0 HD e0
   generalize strB (pageB m.last (Tb.getI s.kp x))=S at *
   generalize Tb.getI s.kp x=y at *
   go_enter Tryz.func35,Tryz.ntmps35
   go_wp2_with (first | (go_at_call 47;refine HR.out.mono ?_;rintro e w7 ⟨rfl,rfl⟩) | (go_at_call 77;refine HG.out.mono ?_;rintro e w7 ⟨rfl,rfl⟩) | (go_at_call 78;refine HP.out.mono ?_;rintro e w7 ⟨rfl,rfl⟩))
   go_ret2
   exact⟨rfl,HA.out⟩
end
end
section
set_option maxRecDepth 20000
open Go.RowKit
theorem hasS_range {w:World} {g d pt pk mb:Nat} {pu po:Option Addr} {s:Sp} (h:Spc0 w g d pt pk mb pu po s) {x:Int} (hx:hasS s x=true):0≤x∧x<512:=by
 unfold hasS Pgs.at_ at hx
 by_cases h0:0≤x
 ·refine⟨h0,?_⟩
  rw [if_pos h0] at hx
  by_cases h1:x<512
  ·exact h1
  ·rw [Tb.getI_out _ (by omega)] at hx
   simp at hx
   obtain⟨b,hb⟩:=Option.isSome_iff_exists.1 hx
   have:=h.map.high hb
   omega
 ·rw [if_neg h0,Tb.getI_out _ (by omega)] at hx
  simp at hx
section
variable {w:World} {g d pt pk mb:Nat} {pu po:Option Addr} {s:Sp}
set_option maxHeartbeats 800000 in
theorem write_sp (h:Spc0 w g d pt pk mb pu po s) (x:Int) (h0:-9223372036854775808≤x) (h1:x≤9223372036854775807) (b:List Nat) (hb:b.length=512) :
  Calls Tryz.prog 36 #[.pointer (some ⟨g,0,none⟩),.int .i64 x,.string (strB b)] w fun e w'=>e = .returned (.int .i64 (if hasS s x then 0 else 5))∧Spc0 w' g d pt pk mb pu po (if hasS s x then putS s x.toNat b else s)∧Chg [g,pt,pk,mb] [g,pt,pk,mb] w w':=by
 have HR:=Lib.hid (refusal_any h)
 have HH:=Lib.hid (has_sp h x h0 h1)
 have HX:=Lib.hid h
 have hsz:(strB b).size=512:=by rw [strB_size];exact hb
 have HN:Hid (hasS s x=true→0≤x∧x<512):=Lib.hid (hasS_range h)
 clear h hb h0 h1
 cases hc:hasS s x with
 | false=>
  rw [hc] at HH
  simp only [Bool.false_eq_true,if_false]
  clear hc HN
  generalize strB b=S at *
  go_enter Tryz.func36,Tryz.ntmps36
  go_wp2_with (first | (go_at_call 47;refine HR.out.mono ?_;rintro e w7 ⟨rfl,rfl⟩) | (go_at_call 48;refine HH.out.mono ?_;rintro e w1 ⟨rfl,hb1⟩))
  go_ret
  exact⟨rfl,HX.out.below hb1,Chg.of_below hb1⟩
 | true=>
  rw [hc] at HH
  simp only [if_true]
  obtain⟨i,rfl⟩:=Int.eq_ofNat_of_zero_le (HN.out hc).1
  have HI:Hid (i<512):=Lib.hid (by have:=(HN.out hc).2;omega)
  rw [Int.toNat_natCast]
  have HP:Hid (∀w1,Below w.heap.size w w1→Calls Tryz.prog 49 #[.pointer (some ⟨g,0,none⟩),.int .i64 (i:Int),.string (strB b)] w1 fun e w'=>e = .returned (.tuple #[])∧Spc0 w' g d pt pk mb pu po (putS s i b)∧Chg [g,pt,pk,mb] [g,pt,pk,mb] w1 w'):=Lib.hid fun w1 hb=>put_sp (HX.out.below hb) i b HI.out
  generalize putS s i b=s2 at *
  clear hc HN HX
  generalize strB b=S at *
  go_enter Tryz.func36,Tryz.ntmps36
  go_wp2_with (first | (go_at_call 47;refine HR.out.mono ?_;rintro e w7 ⟨rfl,rfl⟩) | (go_at_call 48;refine HH.out.mono ?_;rintro e w1 ⟨rfl,hb1⟩) | (go_at_call 49;refine(HP.out _ hb1).mono ?_;rintro e w2 ⟨rfl,hX2,hC2⟩))
  go_ret
  exact⟨rfl,hX2,(Chg.of_below hb1).trans hC2⟩
def lenS (s:Sp):Nat:=Bi.cnt (Tb.told s.kp) 512+s.fr.keys.length
theorem len_sp (h:Spc0 w g d pt pk mb pu po s) :
  Calls Tryz.prog 23 #[.pointer (some ⟨g,0,none⟩)] w fun e w'=>e = .returned (.int .i64 (lenS s:Int))∧Below w.heap.size w w':=by
 have l12:∀t:In w,t.1.cell? ⟨g,12,none⟩=some (.pointer (some ⟨pk,0,none⟩)):=fun t=>(h.below t.2).c12
 have l13:∀t:In w,t.1.cell? ⟨g,13,none⟩=some (.map (some mb)):=fun t=>(h.below t.2).c13
 have HL:Hid (∀t:In w,Calls Tryz.prog 50 #[.pointer (some ⟨pk,0,none⟩)] t.1 fun e w'=>e = .returned (.int .i64 (Bi.cnt (Tb.told s.kp) 512:Int))∧Below t.1.heap.size t.1 w'):=Lib.hid fun t=>Tb.len_any (h.below t.2).kep
 have hLen:∀(t:In w) (ty:TypeId),(Builtin.len_ #[99] ty #[.map (some mb)]).run Tryz.prog t.1 = .ok (.int .i64 (s.fr.keys.length:Int)) t.1:=fun t ty=>(h.below t.2).map.len ty
 have h1:Bi.cnt (Tb.told s.kp) 512≤512:=Bi.cnt_le _ _
 have h2:=s.fr.keys_le
 have HE:Hid (lenS s=Bi.cnt (Tb.told s.kp) 512+s.fr.keys.length):=Lib.hid rfl
 rw [HE.out]
 clear h HE
 generalize Bi.cnt (Tb.told s.kp) 512=a at *
 generalize s.fr.keys.length=b at *
 go_enter Tryz.func23,Tryz.ntmps23
 have hne:=In.some w
 go_upto_region 3 with fail
 refine region_in w (by kernel_rfl) (by kernel_rfl) (Below.refl _ _) ?_
 repeat (go_big_quiet_step ((go_at_call 50;exact Calls.quiet_in (HL.out _))))
 refine wpQuiet_nil ?_
 intro w12 hw'
 have hb12:Below w.heap.size w w12:=by
  obtain⟨⟨wz,hbz⟩,hw''⟩:=hw'
  subst hw''
  exact hbz
 clear hw'
 go_wp2_with fail
 go_ret
 exact⟨by simp,hb12⟩
end
end
section
set_option maxRecDepth 20000
open Go.RowKit
def gapF (h:Nat→Bool):Nat→Nat→Option Nat
 | 0,_=>none
 | k+1,i=>if h i then gapF h k (i+1) else some i
def gapS (s:Sp):Option Nat:=gapF (fun l=>hasS s (l:Int)) 512 0
theorem gapF_lt {h:Nat→Bool} {k i j:Nat} (e:gapF h k i=some j):j<i+k∧h j=false:=by
 induction k generalizing i with
 | zero=>cases e
 | succ k ih=>
  unfold gapF at e
  split at e
  ·have:=ih e;exact⟨by omega,this.2⟩
  ·rename_i hi;cases e;exact⟨by omega,by simpa using hi⟩
def zs512:List Nat:=List.replicate 512 0
theorem zeros_make:∃C0:Array Value,(∀w:World,(Instr.makeSlice 71 (.int .i64 512) (.int .i64 512)).run Tryz.prog w = .ok (.slice (some ⟨w.heap.size,0,none⟩) 512 512) (w.alloc (.cells C0 5))) ∧
  ∀w:World,(convert 71 9 (.slice (some ⟨w.heap.size,0,none⟩) 512 512)).run Tryz.prog (w.alloc (.cells C0 5)) = .ok (.string (strB zs512)) (w.alloc (.cells C0 5)):=by
 obtain⟨i0,hi,hz0,hz1,hz2⟩:=info_parts Tryz.info5
 refine⟨(u8s zs512).toArray,fun w=>?_,fun w=>?_⟩
 ·have h:=run_make (P:=Tryz.prog) w 71 5 i0 _ Tryz.underlying71 hi hz0 .i64 .i64 ((512:Nat):Int) ((512:Nat):Int) (by omega) (by omega) (by rw [hz2];omega) (by omega)
  rw [hz1,Int.toNat_natCast,Nat.mul_one] at h
  unfold zs512
  rw [←Bi.zeros_of 512,Array.toArray_toList]
  exact h
 ·have hr:Row5 (w.alloc (.cells (u8s zs512).toArray 5)) w.heap.size 512 zs512:=
   ⟨by rw [u8s_len];rfl,.inr ⟨w.heap.size,512,(u8s zs512).toArray,rfl,Nat.zero_le _,heap_alloc_new w _,Nat.le_refl _,by decide,by rw [List.size_toArray,u8s_len];rfl,by rw [List.take_of_length_le (by rw [u8s_len];exact Nat.le_refl _)]⟩⟩
  exact(hr.bys (fun x hx=>by rw [(List.mem_replicate.1 hx).2];omega)).conv 512
def allocS (s:Sp):Sp:=match gapS s with | some l=>putS s l zs512 | none=>s
def allocE (s:Sp):Int:=if (gapS s).isSome then 0 else 8
section
variable {w:World} {g d pt pk mb:Nat} {pu po:Option Addr} {s:Sp}
set_option maxHeartbeats 1600000 in
theorem alloc_sp (h:Spc0 w g d pt pk mb pu po s) :
  Calls Tryz.prog 22 #[.pointer (some ⟨g,0,none⟩)] w fun e w'=>e = .returned (.tuple #[.int .i64 (((gapS s).getD 0:Nat):Int),.int .i64 (allocE s)]) ∧
   Spc0 w' g d pt pk mb pu po (allocS s)∧Chg [g,pt,pk,mb] [g,pt,pk,mb] w w':=by
 obtain⟨C0,hmk,hcv⟩:=zeros_make
 have HR:=Lib.hid (refusal_any h)
 have HX:=Lib.hid h
 obtain⟨ZS,hZS⟩:∃ZS,strB zs512=ZS:=⟨_,rfl⟩
 rw [hZS] at hcv
 have HZS:=Lib.hid hZS
 clear h hZS
 go_enter Tryz.func22,Tryz.ntmps22
 go_wp2_with (go_at_call 47;refine HR.out.mono ?_;rintro e w7 ⟨rfl,rfl⟩)
 go_loopw [11] (fun iv wr=>∃i:Nat,i≤512∧iv = .int .i64 (i:Int)∧Hid (gapS s=gapF (fun l=>hasS s (l:Int)) (512 - i) i∧Below w.heap.size w wr)) (fun iv _=>512 - (RowKit.intOf iv).toNat)
 case atStart=>exact⟨0,by omega,by go_num,Lib.hid ⟨rfl,Below.refl _ _⟩⟩
 case round=>
  obtain⟨i,hi5,rfl,HJ⟩:=hrel
  have HX1:=Lib.hid (HX.out.below HJ.out.2)
  have HB1:=Lib.hid HJ.out.2
  have HG:=Lib.hid HJ.out.1
  clear HJ
  by_cases hlt:i<512
  ·have hd1:decide ((i:Int)<512)=true:=decide_eq_true (by omega)
   have HL:=Lib.hid hlt
   have HH:=Lib.hid (has_sp HX1.out (i:Int) (by omega) (by omega))
   have HI5:Hid (i+1≤512):=Lib.hid hlt
   have hi6:(i:Int)≤511:=by omega
   have HE:Hid (gapF (fun l=>hasS s (l:Int)) (512 - i) i=if hasS s (i:Int) then gapF (fun l=>hasS s (l:Int)) (512 - (i+1)) (i+1) else some i):=Lib.hid (by
    rw [show 512 - i=(512 - (i+1))+1 by omega];rfl)
   clear hlt hi5
   cases hc:hasS s (i:Int) with
   | true=>
    have HE2:Hid (gapS s=gapF (fun l=>hasS s (l:Int)) (512 - (i+1)) (i+1)):=Lib.hid (by rw [HG.out,HE.out,hc];rfl)
    rw [hc] at HH
    clear hc HE HG
    go_wp2_with (go_at_call 48;refine HH.out.mono ?_;rintro e w8 ⟨rfl,hb8⟩)
    go_roundw
    case rel=>exact⟨i+1,HI5.out,by go_num,Lib.hid ⟨HE2.out,Below.more HB1.out hb8 HB1.out.size⟩⟩
    case measure=>simp [RowKit.intOf];have:=HI5.out;omega
   | false=>
    have HE2:Hid (gapS s=some i):=Lib.hid (by rw [HG.out,HE.out,hc];rfl)
    rw [hc] at HH
    clear hc HE HG
    go_upto_region 8 with (go_at_call 48;refine HH.out.mono ?_;rintro e w8 ⟨rfl,hb8⟩)
    have HX8:=Lib.hid (HX1.out.below hb8)
    have HB8:=Lib.hid (Below.more HB1.out hb8 HB1.out.size)
    clear HX1 HB1 HH hb8 HX HR
    have HA:Hid (Below w8.heap.size w8 (w8.alloc (.cells C0 5))):=Lib.hid (alloc_below _ _)
    have HP:Hid (Calls Tryz.prog 49 #[.pointer (some ⟨g,0,none⟩),.int .i64 (i:Int),.string ZS] (w8.alloc (.cells C0 5)) fun e w'=>e = .returned (.tuple #[])∧Spc0 w' g d pt pk mb pu po (putS s i zs512)∧Chg [g,pt,pk,mb] [g,pt,pk,mb] (w8.alloc (.cells C0 5)) w'):=Lib.hid (by
     rw [←HZS.out];exact put_sp (HX8.out.below HA.out) i zs512 HL.out)
    go_wp2_with (go_at_call 49;refine HP.out.mono ?_;rintro e w10 ⟨rfl,hX10,hC10⟩)
    go_ret2
    unfold allocE allocS
    simp only [HE2.out]
    exact⟨rfl,hX10,((Chg.of_below HB8.out).trans (Chg.of_below HA.out)).trans hC10⟩
  ·have hd1:decide ((i:Int)<512)=false:=decide_eq_false (by omega)
   have hd2:decide (i<512)=false:=decide_eq_false (by omega)
   have HE2:Hid (gapS s=none):=Lib.hid (by rw [HG.out,show 512 - i=0 by omega];rfl)
   clear hlt HG hi5
   go_wp2_with fail
   go_ret2
   unfold allocE allocS
   simp only [HE2.out]
   exact⟨rfl,HX1.out,Chg.of_below HB1.out⟩
end
end
section
set_option maxRecDepth 20000
open Go.RowKit Go.Maps Go.MapKept
open Go.WideElems (rd rg pl rd_key rd_val rg_of rd_mk)
open Go.WideShapes (sorted_perm)
theorem frm_rgKey {w:World} {b:Nat} {es:Array MapEntry} {clock:Nat} {f:Pgs} (h:Frm w b es clock f) {x:MapEntry} (hx:x∈es.toList):(rg Tryz.prog 3 contR x).1 = .int .i64 ((keyN x:Nat):Int):=by
 obtain⟨y,hy⟩:=h.fit.reads x hx
 obtain⟨l,s,hl,hk,_,_⟩:=h.only x hx
 have h1:=rd_key hy
 rw [rg_of hy]
 have h2:=h.keyN hx
 have h3:keyN x=l:=by rw [hk] at h2;injection h2 with _ h3;omega
 rw [h2,keyI (x:=((keyN x:Nat):Int)) (by omega) (by omega)] at h1
 exact(Option.some.inj h1).symm
theorem frm_has {w:World} {b:Nat} {es:Array MapEntry} {clock:Nat} {f:Pgs} (h:Frm w b es clock f) (kl:Lit) :
  Maps.has (DataW.map ((es.toList.map (rg Tryz.prog 3 contR)).foldr DataW.insert [])) kl=true↔∃l,l∈f.keys∧kl = .int .i64 ((l:Nat):Int):=by
 constructor
 ·intro hh
  obtain⟨p,hp,hpk⟩:=List.any_eq_true.1 hh
  obtain⟨x,hx,rfl⟩:=List.mem_map.1 ((sorted_perm _).mem_iff.1 hp)
  refine⟨keyN x,h.perm.mem_iff.1 (List.mem_map.2 ⟨x,hx,rfl⟩),?_⟩
  rw [←WideAt.sameKey_eq hpk,frm_rgKey h hx]
 ·rintro ⟨l,hl,rfl⟩
  obtain⟨x,hx,rfl⟩:=List.mem_map.1 (h.perm.mem_iff.2 hl)
  refine List.any_eq_true.2 ⟨rg Tryz.prog 3 contR x,(sorted_perm _).mem_iff.2 (List.mem_map.2 ⟨x,hx,rfl⟩),?_⟩
  rw [frm_rgKey h hx]
  exact WideAt.sameKey_self trivial
def freshB (f:Pgs) (i:Nat):Bool:=f.keys.any fun l=>l / 128 == i
section
variable {w:World} {g d pt pk mb:Nat} {pu po:Option Addr} {s:Sp}
set_option maxHeartbeats 1600000 in
theorem hasFresh_any (h:Spc0 w g d pt pk mb pu po s) (i:Nat) (_hi:i≤512) :
  Calls Tryz.prog 167 #[.pointer (some ⟨g,0,none⟩),.int .i64 (i:Int)] w fun e w'=>e = .returned (.bool (freshB s.fr i))∧Below w.heap.size w w':=by
 have c13:=h.c13
 obtain⟨D,hown,es,clock,hF,hD⟩:=h.map.owns
 have HH:Hid (∀kl,Maps.has D kl=true↔∃l,l∈s.fr.keys∧kl = .int .i64 ((l:Nat):Int)):=Lib.hid fun kl=>by rw [hD];exact frm_has hF kl
 have HV:Hid (freshB s.fr i=true↔∃l,l∈s.fr.keys∧l / 128=i):=Lib.hid (by unfold freshB;simp)
 generalize freshB s.fr i=V at *
 clear h hF hD
 go_enter Tryz.func167,Tryz.ntmps167
 go_wp2_with (at_range;refine wpList_range_own _ rfl _ 99 rfl 3 134 keyedI Tryz.underlying99 contR mb 512 D rfl hown ?_;intro w0 hrg0 hg0 hs0)
 have HB0:Hid (Below w.heap.size w w0):=Lib.hid ((Below.refl _ _).grown hg0 (Nat.le_refl _) (fun k e=>by cases e))
 clear hs0 hg0
 go_frame
 go_loopw [11] (fun _ wr=>∃(left:Lit→Bool) (cnt:Nat),wr.ranges Tryz.prog 3 contR mb w.heap.size 512 D left cnt∧Hid (Below w.heap.size w wr∧∀l:Nat,Maps.has D (.int .i64 (l:Int))=true→left (.int .i64 (l:Int))=false→l / 128≠i)) (fun _ wr=>wr.rangeLeft mb w.heap.size)
 case atStart=>exact⟨_,_,hrg0,Lib.hid ⟨HB0.out,fun l h1 h2=>by rw [h1] at h2;cases h2⟩⟩
 case round=>
  obtain⟨left,cnt,hrg,HJ⟩:=hrel
  go_wp2_with (first
   | (at_next;refine wpList_next_ranges _ rfl _ rfl 3 keyedI contR encZ id (fun key kl hk=>by obtain⟨x,hx,_⟩:=Maps.keyOf_i64 Tryz.underlying3 hk;exact⟨x,hx⟩) (fun v _ _=>⟨v,rfl⟩) mb w.heap.size 512 _ _ _ rfl hrg ?_ ?_))
  ·intro hc0 hl0
   have HVF:Hid (V=false):=Lib.hid (by
    cases hV:V with
    | false=>rfl
    | true=>
     rw [hV] at HV
     obtain⟨l,hl,he⟩:=HV.out.1 rfl
     exact absurd he (HJ.out.2 l ((HH.out _).2 ⟨l,hl,rfl⟩) (hl0 _)))
   go_wp2_with fail
   go_ret
   exact⟨by rw [HVF.out];rfl,HJ.out.1⟩
  ·intro x c kl yd yp w2 cnt2 hkey hlk hv hat hrg2 hlt hg2 hs2 hen
   obtain⟨x',ex,rfl,_⟩:=Maps.keyOf_i64 Tryz.underlying3 hkey
   obtain rfl:x=x':=encZ_inj ex
   have HB2:Hid (Below w.heap.size w w2):=Lib.hid (HJ.out.1.grown hg2 HJ.out.1.size (fun k e=>by cases e;exact Nat.le_refl _))
   obtain⟨l,hl,hxl⟩:=(HH.out _).1 (Maps.has_true_of_atKey hat)
   have e2:x=(l:Int):=by injection hxl
   subst e2
   have HL:=Lib.hid hl
   have hl5:l<512:=(Pgs.mem_keys.1 hl).1
   have hT:Int.tdiv (l:Int) 128=((l / 128:Nat):Int):=Tb.tdiv_nat l
   have hW:wrap64 ((l / 128:Nat):Int)=((l / 128:Nat):Int):=by unfold wrap64;omega
   have HRG:=Lib.hid hrg2
   have HLT:=Lib.hid hlt
   have HEQ:=Lib.hid hrg.left_eq
   clear hs2 hg2 hat hkey hlk hv hrg2 hlt hl hxl ex hrg
   by_cases hq:l / 128=i
   ·have hb1:(((l / 128:Nat):Int) == (i:Int))=true:=by rw [hq];exact beq_self_eq_true _
    have HVT:Hid (V=true):=Lib.hid (HV.out.2 ⟨l,HL.out,hq⟩)
    clear hq
    generalize l / 128=q at *
    go_wp2_with fail
    go_ret
    exact⟨by rw [HVT.out];rfl,HB2.out⟩
   ·have hb1:(((l / 128:Nat):Int) == (i:Int))=false:=by simpa using fun e=>hq (by omega)
    have HQ:=Lib.hid hq
    clear hq
    obtain⟨q,hq⟩:∃q,l / 128=q:=⟨_,rfl⟩
    rw [hq] at hT hb1 HQ hW
    have HQQ:=Lib.hid hq
    clear hq
    go_wp2_with fail
    go_roundw
    case rel=>
     refine⟨_,cnt2,HRG.out,Lib.hid ⟨HB2.out,fun l2 h1 h2=>?_⟩⟩
     simp only [Bool.and_eq_false_iff,Bool.not_eq_false'] at h2
     rcases h2 with h2 | h2
     ·exact HJ.out.2 l2 h1 h2
     ·have e3:=WideAt.sameKey_eq h2
      have e4:(l2:Int)=(l:Int):=by injection e3
      have e5:l2=l:=by omega
      rw [e5,HQQ.out];exact HQ.out
    case measure=>rw [HRG.out.left_eq,HEQ.out];exact HLT.out
end
end
section
set_option maxRecDepth 20000
open Go.RowKit
abbrev OwnI (w:World) (B:Nat) (v:Value) (l:List Nat):Prop:=w.ownsRow B 3 1 v l.length (Tb.ivs l)
theorem ivs_get (l:List Nat) (i:Nat) (h:i<l.length):(Tb.ivs l)[i]?=some (.int .i64 ((l.getD i 0:Nat):Int)):=by
 unfold Tb.ivs
 rw [List.getElem?_map,List.getD_eq_getElem?_getD,List.getElem?_eq_getElem h];rfl
theorem OwnI.cells {w:World} {B:Nat} {v:Value} {l:List Nat} (h:OwnI w B v l):∃p c,v = .slice p l.length c∧(∀i,i<l.length→∃g,p=some ⟨g,0,none⟩∧w.cell? ⟨g,i,none⟩=some (.int .i64 ((l.getD i 0:Nat):Int))):=by
 rcases h.2 with ⟨e,h0⟩ | ⟨g,cap,cur,e,hb,hh,h1,h2,h3,h4⟩
 ·exact⟨none,0,by rw [e,h0],fun i hi=>by omega⟩
 ·refine⟨_,cap,e,fun i hi=>⟨g,rfl,?_⟩⟩
  rw [cell_of_row _ _ _ _ _ _ hh]
  have h5:=ivs_get l i hi
  rw [←h4,List.getElem?_take,if_pos (by omega)] at h5
  simpa using h5
set_option maxHeartbeats 800000 in
theorem index_any {w:World} {B:Nat} {v:Value} {l:List Nat} (h:OwnI w B v l) (x:Nat) (hl:l.length≤4096) :
  Calls Tryz.prog 203 #[v,.int .i64 (x:Int)] w fun e w'=>(∃k:Int,e = .returned (.int .i64 k)∧(0≤k↔x∈l))∧w=w':=by
 obtain⟨p,c,rfl,hc⟩:=h.cells
 have HC:=Lib.hid hc
 clear h hc
 obtain⟨n,hn⟩:∃n,l.length=n:=⟨_,rfl⟩
 rw [hn] at HC hl ⊢
 have HN:=Lib.hid hn
 clear hn
 go_enter Tryz.func203,Tryz.ntmps203
 go_wp2_with fail
 go_loop [8] (fun iv=>∃i:Nat,i≤n∧iv = .int .i64 (i:Int)∧Hid (∀j,j<i→l.getD j 0≠x)) (fun iv=>n - (RowKit.intOf iv).toNat)
 case atStart=>exact⟨0,Nat.zero_le _,by go_num,Lib.hid fun j hj=>absurd hj (Nat.not_lt_zero j)⟩
 case round=>
  obtain⟨i,hin,rfl,HJ⟩:=hrel
  by_cases hlt:i<n
  ·obtain⟨g,rfl,hcell⟩:=HC.out i hlt
   have hilt:(i:Int)<(n:Int):=by omega
   have HGD:Hid (l.getD i 0∈l):=Lib.hid (by
    rw [List.getD_eq_getElem?_getD,List.getElem?_eq_getElem (by rw [HN.out];exact hlt)]
    exact List.getElem_mem _)
   by_cases hx:l.getD i 0=x
   ·have HM:Hid ((0:Int)≤(i:Int)↔x∈l):=Lib.hid ⟨fun _=>by rw [←hx];exact HGD.out,fun _=>by omega⟩
    rw [hx] at hcell
    clear hx
    go_wp2_with fail
    go_ret
    exact⟨⟨_,rfl,HM.out⟩,rfl⟩
   ·have HJ2:Hid (∀j,j<i+1→l.getD j 0≠x):=Lib.hid fun j hj=>by
     by_cases e:j=i
     ·rw [e];exact hx
     ·exact HJ.out j (by omega)
    obtain⟨y,hy⟩:∃y,l.getD i 0=y:=⟨_,rfl⟩
    rw [hy] at hcell hx
    have hb1:((x:Int) == (y:Int))=false:=by simpa using fun e=>hx (by omega)
    clear hy hx HJ HGD
    go_wp2_with fail
    go_round
    case rel=>exact⟨i+1,by omega,by go_num,HJ2⟩
    case measure=>simp [RowKit.intOf];omega
  ·have hd1:decide ((i:Int)<(n:Int))=false:=decide_eq_false (by omega)
   have hd2:decide (i<n)=false:=decide_eq_false (by omega)
   have HM:Hid ((0:Int) ≤ -1↔x∈l):=Lib.hid (by
    have:¬ x∈l:=fun hm=>by
     obtain⟨j,hj,e⟩:=List.getElem_of_mem hm
     exact HJ.out j (by have:=HN.out;omega) (by rw [List.getD_eq_getElem?_getD,List.getElem?_eq_getElem hj,e];rfl)
    exact⟨fun e=>absurd e (by omega),fun e=>absurd e this⟩)
   clear hlt hin
   go_wp2_with fail
   go_ret
   exact⟨⟨_,rfl,HM.out⟩,rfl⟩
theorem contains_any {w:World} {B:Nat} {v:Value} {l:List Nat} (h:OwnI w B v l) (x:Nat) (hl:l.length≤4096) :
  Calls Tryz.prog 168 #[v,.int .i64 (x:Int)] w fun e w'=>e = .returned (.bool (decide (x∈l)))∧w=w':=by
 have HX:=Lib.hid (index_any h x hl)
 obtain⟨b,hb⟩:∃b,decide (x∈l)=b:=⟨_,rfl⟩
 rw [hb]
 have HB:=Lib.hid hb.symm
 clear h hl hb
 go_enter Tryz.func168,Tryz.ntmps168
 go_wp2_with (go_at_call 203;refine HX.out.mono ?_;rintro e w7 ⟨⟨k,rfl,hk⟩,rfl⟩)
 go_ret
 exact⟨by rw [HB.out];rfl,rfl⟩
def movB (s:Sp) (i:Nat):Bool:=freshB s.fr i || (Tb.difB s.kp s.g.tb i && !Tb.bareB s.kp i)
def movL (s:Sp):List Nat:=Tb.mems (movB s) 4
theorem dif_mem (f k:Nat→Nat) (i:Nat) (h:i<4):decide (i∈Tb.mems (Tb.difB f k) 4)=Tb.difB f k i:=by
 unfold Tb.mems
 rw [Bool.eq_iff_iff,decide_eq_true_eq,List.mem_filter,List.mem_range]
 exact⟨fun e=>e.2,fun e=>⟨h,e⟩⟩
set_option maxHeartbeats 3200000 in
theorem moved_any {w:World} {g d pt pk mb:Nat} {pu po:Option Addr} {s:Sp} (h:Spc0 w g d pt pk mb pu po s) :
  Calls Tryz.prog 132 #[.pointer (some ⟨g,0,none⟩)] w fun e w'=>(∃v,e = .returned v∧OwnI w' w.heap.size v (movL s))∧Below w.heap.size w w':=by
 obtain⟨i0,hi,hz0,hz1,hz2⟩:=info_parts Tb.Tryz.info3
 have HI:=Lib.hid hi
 have HZ0:=Lib.hid hz0
 have HZ1:=Lib.hid hz1
 have HZ2:=Lib.hid hz2
 have HNIL:∀(B:Nat) (W:World),Hid (W.ownsRow B 3 1 (.slice none 0 0) 0 (Tb.ivs [])):=fun B W=>Lib.hid (World.ownsRow_nil _ _ _ _)
 have HX:=Lib.hid h
 have c9:=h.c9
 have c12:=h.c12
 have HG:=Lib.hid h.lts.1
 have HC:=Lib.hid (Tb.chg_all (w:=w.drew) (h.below (Below.refl _ _).drew).kep (some ⟨pt,0,none⟩) (.inl ⟨pt,rfl,(h.below (Below.refl _ _).drew).tab⟩))
 clear h hi hz0 hz1 hz2
 go_enter Tryz.func132,Tryz.ntmps132
 go_upto_region 2 with fail
 go_region_with (go_at_call 166;refine HC.out.mono ?_;rintro e w1 ⟨⟨dv,rfl,hD⟩,hb1⟩)
 all_goals
  have HD:=Lib.hid hD
  have HB1:Hid (Below w.heap.size w w1):=Lib.hid (undrew hb1)
  have HX1:=Lib.hid (HX.out.below HB1.out)
  clear hD hb1 c9 c12 HC HX
  go_wp2_with fail
  go_loopw [16,3] (fun iv dv2 wr=>∃i:Nat,i≤4∧iv = .int .i64 (i:Int)∧wr.ownsRow w1.heap.size 3 1 dv2 (Tb.mems (movB s) i).length (Tb.ivs (Tb.mems (movB s) i))∧Below w1.heap.size w1 wr) (fun iv _ _=>4 - (RowKit.intOf iv).toNat)
  case atStart=>exact⟨0,Nat.zero_le _,by go_num,(HNIL _ _).out,Below.refl _ _⟩
  case round=>
   obtain⟨i,hi1,rfl,hown,hbel⟩:=hrel
   have HOW:=Lib.hid hown
   have HB:=Lib.hid hbel
   have HXR:=Lib.hid (HX1.out.below hbel)
   clear hown hbel
   by_cases hlt:i<4
   ·have hd:decide ((i:Int)<4)=true:=decide_eq_true (by omega)
    have hiz:(i:Int)<4:=by omega
    have HL:=Lib.hid hlt
    have HF:=Lib.hid (hasFresh_any HXR.out i (by omega))
    have HDD:Hid (∀w2,Below wr.heap.size wr w2→OwnI w2 w.drew.heap.size dv (Tb.mems (Tb.difB s.kp s.g.tb) 4)):=Lib.hid fun w2 hb=>own_below (own_below HD.out HB.out) hb
    have HCN:Hid (∀w2,Below wr.heap.size wr w2→Calls Tryz.prog 168 #[dv,.int .i64 (i:Int)] w2 fun e w'=>e = .returned (.bool (Tb.difB s.kp s.g.tb i))∧w2=w'):=Lib.hid fun w2 hb=>by
     have h1:=contains_any (HDD.out w2 hb) i (Nat.le_trans (Tb.mems_len _ _) (by omega))
     rwa [dif_mem _ _ _ HL.out] at h1
    have HBA:Hid (∀w2,Below wr.heap.size wr w2→Calls Tryz.prog 140 #[.pointer (some ⟨pk,0,none⟩),.int .i64 (i:Int)] w2 fun e w'=>e = .returned (.bool (Tb.bareB s.kp i))∧w2=w'):=Lib.hid fun w2 hb=>Tb.bare_in (HXR.out.below hb).kep i HL.out
    have HKC:Hid (∀w2,Below wr.heap.size wr w2→w2.cell? ⟨g,12,none⟩=some (.pointer (some ⟨pk,0,none⟩))):=Lib.hid fun w2 hb=>(HXR.out.below hb).c12
    have HMV0:Hid (movB s i=(freshB s.fr i || (Tb.difB s.kp s.g.tb i && !Tb.bareB s.kp i))):=Lib.hid rfl
    clear hlt hi1 HXR HDD
    cases hf:freshB s.fr i with
    | true=>
     have HMV:Hid (movB s i=true):=Lib.hid (by rw [HMV0.out,hf];rfl)
     rw [hf] at HF
     clear hf HMV0
     go_upto_region 7 with (go_at_call 167;refine HF.out.mono ?_;rintro e w12 ⟨rfl,hb12⟩)
     have HOW2:=Lib.hid (own_below HOW.out hb12)
     have HBW:=Lib.hid (HB.out.trans (hb12.mono HB.out.size))
     clear hb12
     have HM:Hid (Tb.mems (movB s) (i+1)=Tb.mems (movB s) i++[i]):=Lib.hid (Tb.mems_hit HMV.out)
     have HLN:Hid ((Tb.mems (movB s) i).length≤i):=Lib.hid (Tb.mems_len _ _)
     have HIV:Hid (Tb.ivs (Tb.mems (movB s) (i+1))=Tb.ivs (Tb.mems (movB s) i)++[.int .i64 (i:Int)]∧(Tb.mems (movB s) (i+1)).length=(Tb.mems (movB s) i).length+1):=Lib.hid ⟨by rw [HM.out];unfold Tb.ivs;rw [List.map_append];rfl,by rw [HM.out,List.length_append];rfl⟩
     generalize (Tb.mems (movB s) i).length=m at *
     generalize Tb.ivs (Tb.mems (movB s) i)=ws at *
     go_wp2_with (at_builtin;refine wpList_append_own _ rfl _ _ 47 rfl w1.heap.size 3 i0 (.int .i64 0) 1 8 Tryz.underlying47 HI.out HZ0.out HZ1.out HZ2.out rfl (by decide) _ m _ rfl (World.ownsRow.alloc HOW2.out _) ⟨w12.heap.size,0,none⟩ 1 1 [.int .i64 (i:Int)] rfl rfl (one_cells w12 _ _) ?c2 ?c3 ?c4 ?c5 ?_)
     case c2=>intro v hv;simp at hv;subst hv;rfl
     case c3=>unfold maxLen;have:=HLN.out;have:=HL.out;omega
     case c4=>have:=HLN.out;have:=HL.out;omega
     case c5=>have:=HBW.out.size;simp;omega
     intro v' w13 hown hgrow hnil
     have HB13:=Lib.hid ((HBW.out.alloc HBW.out.size (.cells #[.int .i64 (i:Int)] 3)).grown hgrow (by have:=HBW.out.size;simp;omega) (by intro k2 hk2;exact(World.ownsRow.lt HOW2.out k2 hk2).1))
     have hown2:w13.ownsRow w1.heap.size 3 1 v' (Tb.mems (movB s) (i+1)).length (Tb.ivs (Tb.mems (movB s) (i+1))):=by rw [HIV.out.1,HIV.out.2];exact hown
     clear hown hgrow hnil
     go_wp2_with fail
     go_roundw
     case rel=>exact⟨i+1,by have:=HL.out;omega,by go_num,hown2,HB13.out⟩
     case measure=>have:=HL.out;simp [RowKit.intOf];omega
    | false=>
     rw [hf] at HF
     cases hdf:Tb.difB s.kp s.g.tb i with
     | false=>
      have HMV:Hid (movB s i=false):=Lib.hid (by rw [HMV0.out,hf,hdf];rfl)
      rw [hdf] at HCN
      clear hf hdf HMV0
      go_upto_region 8 with (first | (go_at_call 167;refine HF.out.mono ?_;rintro e w12 ⟨rfl,hb12⟩) | (go_at_call 168;refine(HCN.out _ hb12).mono ?_;rintro e w7 ⟨rfl,rfl⟩))
      have HOW2:=Lib.hid (own_below HOW.out hb12)
      have HBW:=Lib.hid (HB.out.trans (hb12.mono HB.out.size))
      clear hb12
      have HM:Hid (Tb.mems (movB s) (i+1)=Tb.mems (movB s) i):=Lib.hid (Tb.mems_miss HMV.out)
      go_wp2_with fail
      go_roundw
      case rel=>exact⟨i+1,by have:=HL.out;omega,by go_num,by rw [HM.out];exact HOW2.out,HBW.out⟩
      case measure=>have:=HL.out;simp [RowKit.intOf];omega
     | true=>
      rw [hdf] at HCN
      cases hba:Tb.bareB s.kp i with
      | true=>
       have HMV:Hid (movB s i=false):=Lib.hid (by rw [HMV0.out,hf,hdf,hba];rfl)
       rw [hba] at HBA
       clear hf hdf hba HMV0
       go_upto_region 8 with (first | (go_at_call 167;refine HF.out.mono ?_;rintro e w12 ⟨rfl,hb12⟩;have k12:=HKC.out w12 hb12) | (go_at_call 168;refine(HCN.out _ hb12).mono ?_;rintro e w7 ⟨rfl,rfl⟩) | (go_at_call 140;refine(HBA.out _ hb12).mono ?_;rintro e w8 ⟨rfl,rfl⟩))
       have HOW2:=Lib.hid (own_below HOW.out hb12)
       have HBW:=Lib.hid (HB.out.trans (hb12.mono HB.out.size))
       clear hb12
       have HM:Hid (Tb.mems (movB s) (i+1)=Tb.mems (movB s) i):=Lib.hid (Tb.mems_miss HMV.out)
       go_wp2_with fail
       go_roundw
       case rel=>exact⟨i+1,by have:=HL.out;omega,by go_num,by rw [HM.out];exact HOW2.out,HBW.out⟩
       case measure=>have:=HL.out;simp [RowKit.intOf];omega
      | false=>
       have HMV:Hid (movB s i=true):=Lib.hid (by rw [HMV0.out,hf,hdf,hba];rfl)
       rw [hba] at HBA
       clear hf hdf hba HMV0
       go_upto_region 7 with (first | (go_at_call 167;refine HF.out.mono ?_;rintro e w12 ⟨rfl,hb12⟩;have k12:=HKC.out w12 hb12) | (go_at_call 168;refine(HCN.out _ hb12).mono ?_;rintro e w7 ⟨rfl,rfl⟩) | (go_at_call 140;refine(HBA.out _ hb12).mono ?_;rintro e w8 ⟨rfl,rfl⟩))
       have HOW2:=Lib.hid (own_below HOW.out hb12)
       have HBW:=Lib.hid (HB.out.trans (hb12.mono HB.out.size))
       clear hb12
       have HM:Hid (Tb.mems (movB s) (i+1)=Tb.mems (movB s) i++[i]):=Lib.hid (Tb.mems_hit HMV.out)
       have HLN:Hid ((Tb.mems (movB s) i).length≤i):=Lib.hid (Tb.mems_len _ _)
       have HIV:Hid (Tb.ivs (Tb.mems (movB s) (i+1))=Tb.ivs (Tb.mems (movB s) i)++[.int .i64 (i:Int)]∧(Tb.mems (movB s) (i+1)).length=(Tb.mems (movB s) i).length+1):=Lib.hid ⟨by rw [HM.out];unfold Tb.ivs;rw [List.map_append];rfl,by rw [HM.out,List.length_append];rfl⟩
       generalize (Tb.mems (movB s) i).length=m at *
       generalize Tb.ivs (Tb.mems (movB s) i)=ws at *
       go_wp2_with (at_builtin;refine wpList_append_own _ rfl _ _ 47 rfl w1.heap.size 3 i0 (.int .i64 0) 1 8 Tryz.underlying47 HI.out HZ0.out HZ1.out HZ2.out rfl (by decide) _ m _ rfl (World.ownsRow.alloc HOW2.out _) ⟨w12.heap.size,0,none⟩ 1 1 [.int .i64 (i:Int)] rfl rfl (one_cells w12 _ _) ?c2 ?c3 ?c4 ?c5 ?_)
       case c2=>intro v hv;simp at hv;subst hv;rfl
       case c3=>unfold maxLen;have:=HLN.out;have:=HL.out;omega
       case c4=>have:=HLN.out;have:=HL.out;omega
       case c5=>have:=HBW.out.size;simp;omega
       intro v' w13 hown hgrow hnil
       have HB13:=Lib.hid ((HBW.out.alloc HBW.out.size (.cells #[.int .i64 (i:Int)] 3)).grown hgrow (by have:=HBW.out.size;simp;omega) (by intro k2 hk2;exact(World.ownsRow.lt HOW2.out k2 hk2).1))
       have hown2:w13.ownsRow w1.heap.size 3 1 v' (Tb.mems (movB s) (i+1)).length (Tb.ivs (Tb.mems (movB s) (i+1))):=by rw [HIV.out.1,HIV.out.2];exact hown
       clear hown hgrow hnil
       go_wp2_with fail
       go_roundw
       case rel=>exact⟨i+1,by have:=HL.out;omega,by go_num,hown2,HB13.out⟩
       case measure=>have:=HL.out;simp [RowKit.intOf];omega
   ·have hd:decide ((i:Int)<4)=false:=decide_eq_false (by omega)
    have hd2:decide (i<4)=false:=decide_eq_false (by omega)
    have HE:Hid (i=4):=Lib.hid (by omega)
    clear hlt hi1
    go_wp2_with fail
    go_ret
    have h1:=HOW.out
    rw [HE.out] at h1
    exact⟨⟨_,rfl,Tb.own_base h1 HB1.out.size⟩,HB1.out.trans (HB.out.mono HB1.out.size)⟩
end
section
set_option maxRecDepth 20000
open Go.RowKit
def pgsL (s:List Nat) (n:Nat):List Nat:=(List.range n).map (cutV s 2)
theorem pgsL_len (s:List Nat) (n:Nat):(pgsL s n).length=n:=by simp [pgsL]
theorem rowA_zero (n:Nat):madeCells #[Value.int .i64 0] n=Tb.rowA (fun _=>0) n:=by
 apply Array.toList_inj.1
 rw [toList_madeCells_one]
 unfold Tb.rowA Tb.ints
 simp [List.map_const']
theorem info3z:(Tryz.prog.info? 3).map (fun i=>(i.zero,i.size,i.bytes))=some (some (.int .i64 0),1,8):=by kernel_rfl
theorem ivs_pgs (s:List Nat) (n:Nat):Tb.ivs (pgsL s n)=(Tb.rowA (cutV s 2) n).toList:=by
 unfold Tb.ivs pgsL Tb.rowA Tb.ints
 simp
theorem own_of_row {w:World} {B g n:Nat} {f:Nat→Nat} (h:Tb.IsT w g 3 f n) (hB:B≤g) (hn:n≤1000000):w.ownsRow B 3 1 (.slice (some ⟨g,0,none⟩) n n) n (Tb.rowA f n).toList:=
 ⟨by rw [Array.length_toList,Tb.rowA_size,Nat.mul_one],.inr ⟨g,n,_,rfl,hB,h,Nat.le_refl _,by unfold maxLen;omega,by rw [Tb.rowA_size,Nat.mul_one],by rw [Nat.mul_one,List.take_of_length_le (by rw [Array.length_toList,Tb.rowA_size];exact Nat.le_refl _)]⟩⟩
set_option maxHeartbeats 3200000 in
theorem pagesOfS_any (S:ByteArray) (s:List Nat) (n:Nat) (w:World) (hS:IsS S s) (hn:n≤1000) (hl:2*n≤s.length) (hm:s.length≤1000000) :
  Calls Tryz.prog 122 #[.string S,.int .i64 (n:Int)] w fun e w'=>∃v,e = .returned v∧v = .slice (some ⟨w.heap.size,0,none⟩) n n∧OwnI w' w.heap.size v (pgsL s n)∧Below w.heap.size w w':=by
 obtain⟨i0,hi,hz0,hz1,hz2⟩:=info_parts info3z
 have hsz:=hS.size
 have HS:=Lib.hid hS
 have hmk:∀w:World,(Instr.makeSlice 47 (.int .i64 (n:Int)) (.int .i64 (n:Int))).run Tryz.prog w = .ok (.slice (some ⟨w.heap.size,0,none⟩) n n) (w.alloc (.cells (Tb.rowA (fun _=>0) n) 3)):=fun w=>by
  have h:=run_make (P:=Tryz.prog) w 47 3 i0 _ Tryz.underlying47 hi hz0 .i64 .i64 (n:Int) (n:Int) (by omega) (by omega) (by rw [hz2];omega) (by omega)
  rw [hz1,Int.toNat_natCast,Nat.mul_one,show (Value.int IntKind.i64 0).cells=#[.int .i64 0] from rfl,rowA_zero] at h
  exact h
 obtain⟨L,hL⟩:∃L,s.length=L:=⟨_,rfl⟩
 rw [hL] at hsz hl hm
 have HL:=Lib.hid hL
 have hnI:(n:Int)≤1000:=by omega
 have hlI:(L:Int)≤1000000:=by omega
 have h2I:2*(n:Int)≤(L:Int):=by omega
 have HN:=Lib.hid hn
 have HM:=Lib.hid hl
 have H0:Hid (Tb.IsT (w.alloc (.cells (Tb.rowA (fun _=>0) n) 3)) w.heap.size 3 (fun _=>0) n∧Below w.heap.size w (w.alloc (.cells (Tb.rowA (fun _=>0) n) 3))):=Lib.hid ⟨heap_alloc_new _ _,alloc_below _ _⟩
 clear hi hz0 hz1 hz2 hS hL hn
 generalize Tb.rowA (fun _=>0) n=Z at *
 go_enter Tryz.func122,Tryz.ntmps122
 go_upto_region 3 with fail
 generalize (w.alloc (.cells Z 3))=w2 at *
 clear hmk
 go_loopw [11] (fun iv wr=>∃i:Nat,i≤n∧iv = .int .i64 (i:Int)∧Hid (∃f,Tb.IsT wr w.heap.size 3 f n∧Below w.heap.size w wr∧∀j,j<i→f j=cutV s 2 j)) (fun iv _=>n - (RowKit.intOf iv).toNat)
 case atStart=>exact⟨0,by omega,by go_num,Lib.hid ⟨_,H0.out.1,H0.out.2,fun j hj=>absurd hj (Nat.not_lt_zero j)⟩⟩
 case round=>
  obtain⟨i,hi,rfl,hr⟩:=hrel
  by_cases hlt:i<n
  ·have hd:decide ((i:Int)<(n:Int))=true:=decide_eq_true (by omega)
   have hiI:(i:Int)<1000:=by omega
   have hiI2:(i:Int)<(n:Int):=by omega
   have HI2:=Lib.hid hlt
   obtain⟨f,hrow,hb,hf⟩:=hr.out
   have HROW:=Lib.hid hrow
   have HB:=Lib.hid hb
   have HF:=Lib.hid hf
   have hsub:=HS.out.cutS (i*2) 2 L HL.out (by omega)
   have HT:=Lib.hid (takeS_any _ _ wr hsub (by rw [List.length_take];omega))
   have hex:(S.extract (i*2) L).size=L - i*2:=by rw [ByteArray.size_extract,hsz,Nat.min_eq_left (Nat.le_refl _)]
   have hcl:=HROW.out.cell i hlt
   have hfz:=HROW.out.free i
   have h2i:i*2+2≤L:=by omega
   have h3i:i*2≤L:=by omega
   have h4i:2≤L - i*2:=by omega
   clear hsub hr hrow hb hf hi
   go_wp2_with (go_at_call 162;with_reducible refine HT.out.mono ?_;rintro e w7 ⟨rfl,rfl⟩)
   have HR4:Hid (∃f2,Tb.IsT (wr.setCell ⟨w.heap.size,i,none⟩ (.int .i64 ((val ((s.drop (i*2)).take 2):Nat):Int))) w.heap.size 3 f2 n∧Below w.heap.size w (wr.setCell ⟨w.heap.size,i,none⟩ (.int .i64 ((val ((s.drop (i*2)).take 2):Nat):Int)))∧∀j,j<i+1→f2 j=cutV s 2 j):=Lib.hid
    ⟨Tb.updN f i (cutV s 2 i),HROW.out.put i _,HB.out.setCell (Nat.le_refl _) _,fun j hj=>by
     by_cases e:j=i
     ·rw [e,Tb.updN_same]
     ·rw [Tb.updN_other _ _ _ _ e,HF.out j (by omega)]⟩
   go_roundw
   case rel=>exact⟨i+1,HI2.out,by go_num,HR4⟩
   case measure=>have:=HI2.out;simp [RowKit.intOf];omega
  ·obtain rfl:i=n:=by omega
   have hd:decide ((i:Int)<(i:Int))=false:=decide_eq_false (by omega)
   obtain⟨f,hrow,hb,hf⟩:=hr.out
   have HE:Hid (Tb.rowA f i=Tb.rowA (cutV s 2) i):=Lib.hid (Tb.rowA_ext hf)
   have HBL:=Lib.hid hb
   have HW:=Lib.hid (own_of_row hrow (Nat.le_refl _) (by have:=HN.out;omega))
   clear hr hf hrow hb HS HL
   go_wp2_with fail
   go_ret
   refine⟨_,rfl,rfl,?_,HBL.out⟩
   show World.ownsRow _ _ 3 1 _ _ _
   rw [pgsL_len,ivs_pgs,←HE.out]
   exact HW.out
end
section
set_option maxRecDepth 20000
open Go.RowKit
theorem partL_ints (F:Nat→Nat) (a:Nat):partL (F a) (fun j=>F (a+1+j))=Tb.ints F a 129:=by
 rw [Tb.ints_cons]
 unfold partL
 rw [Tb.ints_congr (f:=fun j=>F (a+1+j)) (g:=F) (a:=0) (b:=a+1) (fun j _=>by rw [Nat.zero_add])]
def partAt (F:Nat→Nat) (i:Nat):Nat × (Nat→Nat):=(F (i*129),fun j=>F (i*129+1+j))
end
end Go.Proofs.YtmbecjlioogbhaaGreatDoor
