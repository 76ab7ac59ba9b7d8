/- Texts Put5 to Dec of this seat, laid into one. -/
import Derived.Laws.CopyRow
import Derived.Deep.RegionHeld3
import Derived.Deep.AppendLies
import Derived.StillTailTactics
import Derived.Deep.RegionWith
import Derived.WalkSmall
import Derived.Test.YtmbecjlioogbhaaGreatDoorM00
import Derived.Test.YtmbecjlioogbhaaGreatDoorM05
set_option linter.unusedVariables false
set_option linter.unusedSimpArgs false
set_option linter.constructorNameAsVariable false
namespace Go.Proofs.YtmbecjlioogbhaaGreatDoor
section
set_option maxRecDepth 20000
open Go.RowKit
def putN (us:List Nat) (o k n:Nat):Nat→List Nat
 | 0=>us
 | j+1=>(putN us o k n j).set (o+(k - 1 - j)) (n / 256 ^ j % 256)
theorem putN_len (us:List Nat) (o k n j:Nat):(putN us o k n j).length=us.length:=by
 induction j with
 | zero=>rfl
 | succ j ih=>show ((putN us o k n j).set _ _).length=_;rw [List.length_set,ih]
theorem getD_set (l:List Nat) (i v j:Nat) (h:i<l.length):(l.set i v).getD j 0=if i=j then v else l.getD j 0:=by
 rw [List.getD_eq_getElem?_getD,List.getD_eq_getElem?_getD,List.getElem?_set]
 split
 ·rename_i e
  subst e
  rfl
 ·rfl
theorem putN_get (us:List Nat) (o k n j i:Nat) (h:o+k≤us.length) (hj:j≤k) :
  (putN us o k n j).getD i 0=if o+k - j≤i∧i<o+k then n / 256 ^ (o+k - 1 - i) % 256 else us.getD i 0:=by
 induction j with
 | zero=>rw [if_neg (by omega)];rfl
 | succ j ih=>
  show ((putN us o k n j).set (o+(k - 1 - j)) (n / 256 ^ j % 256)).getD i 0=_
  rw [getD_set _ _ _ _ (by rw [putN_len];omega),ih (by omega)]
  by_cases h1:o+(k - 1 - j)=i
  ·rw [if_pos h1,if_pos (by omega),show o+k - 1 - i=j by omega]
  ·rw [if_neg h1]
   by_cases h2:o+k - j≤i∧i<o+k
   ·rw [if_pos h2,if_pos (by omega)]
   ·rw [if_neg h2,if_neg (by omega)]
theorem list_ext_getD {a b:List Nat} (hl:a.length=b.length) (h:∀i,i<a.length→a.getD i 0=b.getD i 0):a=b:=by
 apply List.ext_getElem hl
 intro i h1 h2
 have:=h i h1
 rw [List.getD_eq_getElem?_getD,List.getD_eq_getElem?_getD,List.getElem?_eq_getElem h1,List.getElem?_eq_getElem h2] at this
 exact this
def lay (us:List Nat) (o:Nat) (bs:List Nat):List Nat:=us.take o++(bs++us.drop (o+bs.length))
theorem lay_len (us:List Nat) (o:Nat) (bs:List Nat) (h:o+bs.length≤us.length):(lay us o bs).length=us.length:=by
 unfold lay;rw [List.length_append,List.length_append,List.length_take,List.length_drop];omega
theorem getD_app (a b:List Nat) (i:Nat):(a++b).getD i 0=if i<a.length then a.getD i 0 else b.getD (i - a.length) 0:=by
 rw [List.getD_eq_getElem?_getD,List.getD_eq_getElem?_getD,List.getD_eq_getElem?_getD]
 split
 ·rename_i h;rw [List.getElem?_append_left h]
 ·rename_i h;rw [List.getElem?_append_right (by omega)]
theorem lay_get (us:List Nat) (o:Nat) (bs:List Nat) (h:o+bs.length≤us.length) (i:Nat) :
  (lay us o bs).getD i 0=if o≤i∧i<o+bs.length then bs.getD (i - o) 0 else us.getD i 0:=by
 unfold lay
 have hl:(us.take o).length=o:=by rw [List.length_take];omega
 rw [getD_app,hl]
 by_cases h1:i<o
 ·rw [if_pos h1,if_neg (by omega),getD_take _ _ _ h1]
 ·rw [if_neg h1,getD_app]
  by_cases h2:i - o<bs.length
  ·rw [if_pos h2,if_pos (by omega)]
  ·rw [if_neg h2,if_neg (by omega),getD_drop]
   congr 1;omega
theorem putN_all (us:List Nat) (o k n:Nat) (h:o+k≤us.length):putN us o k n k=lay us o (be k n):=by
 have hl:o+(be k n).length≤us.length:=by rw [be_len];exact h
 refine list_ext_getD (by rw [putN_len,lay_len _ _ _ hl]) fun i _=>?_
 rw [putN_get _ _ _ _ _ _ h (Nat.le_refl _),lay_get _ _ _ hl,be_len]
 by_cases h1:o≤i∧i<o+k
 ·rw [if_pos (by omega),if_pos h1,be_get _ _ _ (by omega)]
  congr 3;omega
 ·rw [if_neg (by omega),if_neg h1]
structure PutRel (w wr:World) (g N:Nat) (us:List Nat) (o k n j:Nat):Prop where
 row:Row5 wr g N (putN us o k n j)
 only:Only g w wr
theorem PutRel.next {w wr:World} {g N:Nat} {us:List Nat} {o k n j:Nat} (h:PutRel w wr g N us o k n j) :
  PutRel w (wr.setCell ⟨g,o+(k - 1 - j),none⟩ (.int .u8 ((n / 256 ^ j % 256:Nat):Int))) g N us o k n (j+1):=
 ⟨h.row.put _ _,h.only.trans (Only.setCell _ _ _ _)⟩
set_option maxHeartbeats 1600000 in
theorem put_4 (g N o c n:Nat) (us:List Nat) (w:World) (hR:Row5 w g N us) (hk:o+4≤N) (_hn:n≤4611686018427387904) :
  Calls Tryz.prog 209 #[.slice (some ⟨g,o,none⟩) 4 c,.int .i64 (n:Int)] w fun e w'=>e = .returned (.tuple #[])∧Row5 w' g N (lay us o (be 4 n))∧Only g w w':=by
 have HP:=Lib.hid (putN_all us o 4 n (by rw [hR.len];exact hk))
 have H0:Hid (PutRel w w g N us o 4 n 0):=Lib.hid ⟨hR,Only.refl _ _⟩
 clear hR
 go_enter Tryz.func209,Tryz.ntmps209
 go_wp2_with fail
 go_loopw [7] (fun iv wr=>∃j:Nat,j≤4∧iv = .int .i64 (j:Int)∧Hid (PutRel w wr g N us o 4 n j)) (fun iv _=>4 - (RowKit.intOf iv).toNat)
 case atStart=>exact⟨0,by omega,by go_num,H0⟩
 case round=>
  obtain⟨j,hj,rfl,HR⟩:=hrel
  by_cases hlt:j<4
  ·have hf:=HR.out.row.fz (o+(4 - 1 - j))
   have hc:=HR.out.row.cell (o+(4 - 1 - j)) (by omega)
   have HN:=Lib.hid HR.out.next
   clear HR H0
   generalize (putN us o 4 n j).getD (o+(4 - 1 - j)) 0=old at *
   rcases (show j=0∨j=1∨j=2∨j=3 by omega) with rfl | rfl | rfl | rfl
   all_goals
    simp only [Nat.reduceSub,Nat.add_zero] at hc hf
    go_wp2_with fail
    go_roundw
    case rel=>
     refine⟨_,hlt,by go_num,?_⟩
     first
      | exact HN
      | (rw [Nat.pow_zero,Nat.div_one] at HN;exact HN)
      | (rw [Nat.mod_eq_of_lt (show n / 256 ^ 7<256 by omega)] at HN;exact HN)
    case measure=>simp [RowKit.intOf]
  ·obtain rfl:j=4:=by omega
   have HE:=Lib.hid HR.out.row
   rw [HP.out] at HE
   have HO:=Lib.hid HR.out.only
   clear HR H0 HP
   go_wp2_with fail
   go_end0
   exact⟨rfl,HE.out,HO.out⟩
set_option maxHeartbeats 1600000 in
theorem put_8 (g N o c n:Nat) (us:List Nat) (w:World) (hR:Row5 w g N us) (hk:o+8≤N) (hn:n≤4611686018427387904) :
  Calls Tryz.prog 209 #[.slice (some ⟨g,o,none⟩) 8 c,.int .i64 (n:Int)] w fun e w'=>e = .returned (.tuple #[])∧Row5 w' g N (lay us o (be 8 n))∧Only g w w':=by
 have HP:=Lib.hid (putN_all us o 8 n (by rw [hR.len];exact hk))
 have H0:Hid (PutRel w w g N us o 8 n 0):=Lib.hid ⟨hR,Only.refl _ _⟩
 clear hR
 go_enter Tryz.func209,Tryz.ntmps209
 go_wp2_with fail
 go_loopw [7] (fun iv wr=>∃j:Nat,j≤8∧iv = .int .i64 (j:Int)∧Hid (PutRel w wr g N us o 8 n j)) (fun iv _=>8 - (RowKit.intOf iv).toNat)
 case atStart=>exact⟨0,by omega,by go_num,H0⟩
 case round=>
  obtain⟨j,hj,rfl,HR⟩:=hrel
  by_cases hlt:j<8
  ·have hf:=HR.out.row.fz (o+(8 - 1 - j))
   have hc:=HR.out.row.cell (o+(8 - 1 - j)) (by omega)
   have HN:=Lib.hid HR.out.next
   clear HR H0
   generalize (putN us o 8 n j).getD (o+(8 - 1 - j)) 0=old at *
   rcases (show j=0∨j=1∨j=2∨j=3∨j=4∨j=5∨j=6∨j=7 by omega) with rfl | rfl | rfl | rfl | rfl | rfl | rfl | rfl
   all_goals
    simp only [Nat.reduceSub,Nat.add_zero] at hc hf
    go_wp2_with fail
    go_roundw
    case rel=>
     refine⟨_,hlt,by go_num,?_⟩
     first
      | exact HN
      | (rw [Nat.pow_zero,Nat.div_one] at HN;exact HN)
      | (rw [Nat.mod_eq_of_lt (show n / 256 ^ 7<256 by omega)] at HN;exact HN)
    case measure=>simp [RowKit.intOf]
  ·obtain rfl:j=8:=by omega
   have HE:=Lib.hid HR.out.row
   rw [HP.out] at HE
   have HO:=Lib.hid HR.out.only
   clear HR H0 HP
   go_wp2_with fail
   go_end0
   exact⟨rfl,HE.out,HO.out⟩
end
section
set_option maxRecDepth 20000
open Go.RowKit
theorem lt_of_block {w:World} {b:Nat} {o:Obj} (h:w.heap[b]?=some o):b<w.heap.size:=by
 rcases Nat.lt_or_ge b w.heap.size with h1 | h1
 ·exact h1
 ·rw [Array.getElem?_eq_none h1] at h;cases h
theorem Row5.cur {w:World} {g N:Nat} {us:List Nat} (h:Row5 w g N us):w.heap[g]?=some (.cells (u8s us).toArray 5 (0,0))∧N≤maxLen:=by
 have hl:=h.len
 rcases h.2 with ⟨h0,_⟩ | ⟨g',cap,cur,h0,_,hh,h1,h2,h3,h4⟩
 ·cases h0
 ·cases h0
  rw [Nat.mul_one] at h3 h4
  refine⟨?_,h2⟩
  rw [hh,←h4,List.take_of_length_le (by rw [Array.length_toList];omega),Array.toArray_toList]
theorem Row5.of_cur {w:World} {g N:Nat} {us:List Nat} (h:w.heap[g]?=some (.cells (u8s us).toArray 5 (0,0))) (hl:us.length=N) (hN:N≤maxLen):Row5 w g N us:=
 ⟨by rw [u8s_len];omega,.inr ⟨g,N,_,rfl,Nat.zero_le _,h,Nat.le_refl _,hN,by rw [List.size_toArray,u8s_len];omega,by
  show List.take (N*1) (u8s us)=u8s us
  rw [List.take_of_length_le (by rw [u8s_len];omega)]⟩⟩
theorem Only.setRow {w:World} (g:Nat) (cs:Array Value):Only g w (w.setRow g cs):=
 ⟨rfl,rfl,rfl,by simp,fun k _ hk=>setRow_other w g k cs hk⟩
theorem copy_name {w:World} {g o l c N:Nat} {us:List Nat} (h:Row5 w g N us) (hk:o+4≤N) (hl:4≤l) (ty:TypeId) :
  ∃w',(Builtin.copy_ #[71,9] ty #[.slice (some ⟨g,o,none⟩) l c,.string ⟨#[72,73,66,82]⟩]).run Tryz.prog w = .ok (.int .i64 4) w'∧Row5 w' g N (lay us o nameB)∧Only g w w':=by
 obtain⟨hc,hN⟩:=h.cur
 have hle:=h.len
 have hst:=run_storeCells_at Tryz.prog g o 5 (u8s nameB) 0 _ w hc (by rw [List.size_toArray,u8s_len,u8s_len];show o+0+4≤_;omega) (u8s_one _)
 obtain⟨i0,hi,hz0,hz1,hz2⟩:=info_parts Tryz.info5
 refine⟨_,?_,?_,Only.setRow g ((u8s (lay us o nameB)).toArray)⟩
 ·have hmin:Nat.min 4 l=4:=Nat.min_eq_left hl
  have e:((List.take (o+0) (u8s us).toArray.toList++u8s nameB++List.drop (o+0+(u8s nameB).length) (u8s us).toArray.toList).toArray)=(u8s (lay us o nameB)).toArray:=by
   unfold lay
   rw [u8s_append,u8s_append,u8s_len,Nat.add_zero]
   unfold u8s
   simp [List.map_take,List.map_drop]
  rw [e] at hst
  have hsz:(⟨#[72,73,66,82]⟩:ByteArray).size=4:=rfl
  have hrun:((Builtin.copy_ #[71,9] ty #[.slice (some ⟨g,o,none⟩) l c,.string ⟨#[72,73,66,82]⟩]).run Tryz.prog w) = .ok (goInt (⟨#[72,73,66,82]⟩:ByteArray).size) (w.setRow g (u8s (lay us o nameB)).toArray):=by
   simp [Builtin.copy_,run_underlying Tryz.underlying71,Builtin.lenOf,Builtin.firstCells,sizeOf,typeInfo,hi,hsz,hmin]
   rw [show [Value.int IntKind.u8 72,Value.int IntKind.u8 73,Value.int IntKind.u8 66,Value.int IntKind.u8 82]=u8s nameB from rfl,hst]
   simp [Result.andThen]
  exact hrun
 ·exact Row5.of_cur (setRow_heap w g _ _ _ _ hc) (by rw [lay_len _ _ _ (by show o+4≤_;omega)];exact hle) hN
theorem lay_next (A bs:List Nat) (m o:Nat) (hA:A.length=o) (_hb:bs.length≤m):lay (A++List.replicate m 0) o bs=(A++bs)++List.replicate (m - bs.length) 0:=by
 unfold lay
 rw [take_app A _ hA,drop_app A _ hA,List.drop_replicate,List.append_assoc]
def rows0 (en:Nat):List Nat:=lay (lay (List.replicate 116 0) 0 (be 8 en)) 8 nameB
def rows (en pn dn wn:Nat):Nat→List Nat
 | 0=>rows0 en
 | 1=>lay (rows0 en) 12 (be 4 pn)
 | 2=>lay (lay (rows0 en) 12 (be 4 pn)) 16 (be 4 dn)
 | _=>lay (lay (lay (rows0 en) 12 (be 4 pn)) 16 (be 4 dn)) 20 (be 4 wn)
theorem rows_all (en pn dn wn:Nat):rows en pn dn wn 3=body ⟨(en:Int),(pn:Int),(dn:Int),(wn:Int)⟩:=by
 show lay (lay (lay (lay (lay (List.replicate 116 0) 0 (be 8 en)) 8 nameB) 12 (be 4 pn)) 16 (be 4 dn)) 20 (be 4 wn)=_
 have h0:=lay_next [] (be 8 en) 116 0 rfl (by rw [be_len];omega)
 rw [List.nil_append,List.nil_append,be_len] at h0
 rw [h0,lay_next _ nameB _ 8 (by rw [be_len]) (by show 4≤_;omega),lay_next _ (be 4 pn) _ 12 (by rw [List.length_append,be_len];rfl) (by rw [be_len];show 4≤116 - 8 - 4;omega),
  lay_next _ (be 4 dn) _ 16 (by rw [List.length_append,List.length_append,be_len,be_len];rfl) (by rw [be_len,be_len];show 4≤116 - 8 - 4 - 4;omega),
  lay_next _ (be 4 wn) _ 20 (by rw [List.length_append,List.length_append,List.length_append,be_len,be_len,be_len];rfl) (by rw [be_len,be_len,be_len];show 4≤116 - 8 - 4 - 4 - 4;omega)]
 unfold body
 rw [be_len,be_len,be_len]
 show _++List.replicate (116 - 8 - 4 - 4 - 4 - 4) 0=_
 simp only [List.append_assoc,Int.toNat_natCast]
structure EncRel (w wr:World) (g a b:Nat) (R:Rt) (V:Array Value) (us:List Nat):Prop where
 row:Row5 wr g 116 us
 rt:RtAt wr b 93 R
 arr:wr.heap[a]?=some (.cells V 262 (0,0))
 below:Below w.heap.size w wr
theorem EncRel.only {w wr w':World} {g a b:Nat} {R:Rt} {V:Array Value} {us us2:List Nat} (h:EncRel w wr g a b R V us) (hr:Row5 w' g 116 us2) (ho:Only g wr w') (hb:b≠g) (ha:a≠g) (hg:w.heap.size≤g):EncRel w w' g a b R V us2:=
 ⟨hr,h.rt.only ho hb,(ho.block a (lt_of_block h.arr) ha).trans h.arr,ho.below h.below h.below.size hg⟩
theorem EncRel.drew {w wr:World} {g a b:Nat} {R:Rt} {V:Array Value} {us:List Nat} (h:EncRel w wr g a b R V us):EncRel w wr.drew g a b R V us:=⟨h.row.below (Below.refl _ _).drew,h.rt.below (Below.refl _ _).drew,h.arr,h.below.drew⟩
set_option maxHeartbeats 400000 in
theorem fieldPlace_any (i:Nat) (w:World) (hi:i<3):Calls Tryz.prog 210 #[.int .i64 (i:Int)] w fun e w'=>e = .returned (.int .i64 ((12+4*i:Nat):Int))∧w=w':=by
 have HE:Hid (((12+4*i:Nat):Int)=12+(i:Int)*4):=Lib.hid (by omega)
 rw [HE.out]
 go_enter Tryz.func210,Tryz.ntmps210
 go_wp2_with fail
 go_ret
 exact⟨rfl,rfl⟩
end
section
set_option maxRecDepth 20000
open Go.RowKit
def toldI (s:List Nat):Rt:=⟨toI (val (s.take 8)),(val ((s.drop 12).take 4):Int),(val ((s.drop 16).take 4):Int),(val ((s.drop 20).take 4):Int)⟩
def fld (s:List Nat) (o:Nat):Nat:=val ((s.drop o).take 4)
theorem fld_lt (s:List Nat) (o:Nat) (h:∀x∈s,x<256):fld s o<4294967296:=
 Nat.lt_of_lt_of_le (val_lt _ (fun x hx=>h x (List.mem_of_mem_drop (List.mem_of_mem_take hx)))) (by
  have:((s.drop o).take 4).length≤4:=by rw [List.length_take];omega
  exact Nat.le_trans (Nat.pow_le_pow_right (by omega) this) (by decide))
theorem IsS.sub {S:ByteArray} {s:List Nat} (h:IsS S s) (o k:Nat) (hl:s.length=128) (hk:o+k≤128):IsS ((S.extract o 128).extract 0 k) ((s.drop o).take k)∧((s.drop o).take k).length=k:=by
 have h1:=(h.ext o 128).ext 0 k
 rw [List.drop_zero,Nat.sub_zero,List.take_take,Nat.min_eq_left (by omega)] at h1
 exact⟨h1,by rw [List.length_take,List.length_drop];omega⟩
def arr3 (v1 v2 v3:Nat):Nat→Array Value
 | 0=>#[.int .i64 0,.int .i64 0,.int .i64 0]
 | 1=>#[.int .i64 (v1:Int),.int .i64 0,.int .i64 0]
 | 2=>#[.int .i64 (v1:Int),.int .i64 (v2:Int),.int .i64 0]
 | _=>#[.int .i64 (v1:Int),.int .i64 (v2:Int),.int .i64 (v3:Int)]
structure TRel (w wr:World) (V:Array Value):Prop where
 box:RtAt wr w.heap.size 93 Rt.none_
 arr:wr.heap[w.heap.size+1]?=some (.cells V 262 (0,0))
 below:Below w.heap.size w wr
theorem TRel.put {w wr:World} {V:Array Value} (h:TRel w wr V) (i:Nat) (v:Value):TRel w (wr.setCell ⟨w.heap.size+1,i,none⟩ v) (V.set! i v):=
 ⟨(heap_setCell_other wr ⟨w.heap.size+1,i,none⟩ w.heap.size v (by simp)).trans h.box,heap_setCell_same wr (w.heap.size+1) i _ _ _ h.arr,h.below.setCell (Nat.le_succ _) _⟩
set_option maxHeartbeats 1600000 in
theorem told_any (S:ByteArray) (s:List Nat) (w:World) (hS:IsS S s) (hl:s.length=128) :
  Calls Tryz.prog 234 #[.string S] w fun e w'=>e = .returned (toldI s).val∧Below w.heap.size w w':=by
 have hsz:S.size=128:=by rw [hS.size,hl]
 have h12:=hS.sub 12 4 hl (by omega)
 have h16:=hS.sub 16 4 hl (by omega)
 have h20:=hS.sub 20 4 hl (by omega)
 have h8:=hS.ext 0 8
 rw [List.drop_zero,Nat.sub_zero] at h8
 have z12:=h12.1.size
 have z16:=h16.1.size
 have z20:=h20.1.size
 have T12:=Lib.hid (fun w=>take_any5 _ _ w h12.1 (by rw [h12.2];omega))
 have T16:=Lib.hid (fun w=>take_any5 _ _ w h16.1 (by rw [h16.2];omega))
 have T20:=Lib.hid (fun w=>take_any5 _ _ w h20.1 (by rw [h20.2];omega))
 have T8:=Lib.hid (fun w=>take_any5 _ _ w h8 (by rw [List.length_take];omega))
 have f12:=fld_lt s 12 hS.dig
 have f16:=fld_lt s 16 hS.dig
 have f20:=fld_lt s 20 hS.dig
 rw [toI_small (show val ((s.drop 12).take 4)<9223372036854775808 from Nat.lt_trans f12 (by decide))] at T12
 rw [toI_small (show val ((s.drop 16).take 4)<9223372036854775808 from Nat.lt_trans f16 (by decide))] at T16
 rw [toI_small (show val ((s.drop 20).take 4)<9223372036854775808 from Nat.lt_trans f20 (by decide))] at T20
 unfold Rt.val toldI
 simp only
 clear hS h12 h16 h20 h8 z12 z16 z20 f12 f16 f20
 generalize val ((s.drop 12).take 4)=v1 at *
 generalize val ((s.drop 16).take 4)=v2 at *
 generalize val ((s.drop 20).take 4)=v3 at *
 generalize toI (val (s.take 8))=v0 at *
 have e12:(S.extract 12 128).size=116:=by rw [ByteArray.size_extract];omega
 have e16:(S.extract 16 128).size=112:=by rw [ByteArray.size_extract];omega
 have e20:(S.extract 20 128).size=108:=by rw [ByteArray.size_extract];omega
 go_enter Tryz.func234,Tryz.ntmps234
 go_wp2_with fail
 have H0:Hid (TRel w ((w.alloc (.cells #[.int .i64 0,.int .i64 0,.int .i64 0,.int .i64 0] 93)).alloc (.cells #[.int .i64 0,.int .i64 0,.int .i64 0] 262)) (arr3 v1 v2 v3 0)):=
  Lib.hid ⟨heap_alloc2_old w _ _,heap_alloc2_new w _ _,((Below.refl _ _).alloc (Nat.le_refl _) _).alloc (by simp) _⟩
 generalize ((w.alloc (.cells #[.int .i64 0,.int .i64 0,.int .i64 0,.int .i64 0] 93)).alloc (.cells #[.int .i64 0,.int .i64 0,.int .i64 0] 262))=w2 at *
 go_loopw [5] (fun iv wr=>∃j:Nat,j≤3∧iv = .int .i64 (j:Int)∧Hid (TRel w wr (arr3 v1 v2 v3 j))) (fun iv _=>3 - (RowKit.intOf iv).toNat)
 case atStart=>exact⟨0,by omega,by go_num,H0⟩
 case round=>
  obtain⟨j,hj,rfl,HR⟩:=hrel
  clear H0
  by_cases hlt:j<3
  ·rcases (show j=0∨j=1∨j=2 by omega) with rfl | rfl | rfl
   ·have k0:wr.cell? ⟨w.heap.size+1,0,none⟩=some (.int .i64 0):=by rw [cell_of_row wr (w.heap.size+1) 0 _ _ _ HR.out.arr];rfl
    have kf:=frozen_of_row wr (w.heap.size+1) 0 _ _ HR.out.arr
    have HN:Hid (TRel w (wr.setCell ⟨w.heap.size+1,0,none⟩ (.int .i64 (v1:Int))) (arr3 v1 v2 v3 1)):=Lib.hid (HR.out.put 0 _)
    clear HR
    go_wp2_with (first
     | (go_at_call 210;refine(fieldPlace_any 0 _ (by omega)).mono ?_;rintro e w7 ⟨rfl,rfl⟩)
     | (go_at_call 252;refine(T12.out _).mono ?_;rintro e w7 ⟨rfl,rfl⟩))
    go_roundw
    case rel=>exact⟨1,by omega,by go_num,HN⟩
    case measure=>simp [RowKit.intOf]
   ·have k0:wr.cell? ⟨w.heap.size+1,1,none⟩=some (.int .i64 0):=by rw [cell_of_row wr (w.heap.size+1) 1 _ _ _ HR.out.arr];rfl
    have kf:=frozen_of_row wr (w.heap.size+1) 1 _ _ HR.out.arr
    have HN:Hid (TRel w (wr.setCell ⟨w.heap.size+1,1,none⟩ (.int .i64 (v2:Int))) (arr3 v1 v2 v3 2)):=Lib.hid (HR.out.put 1 _)
    clear HR
    go_wp2_with (first
     | (go_at_call 210;refine(fieldPlace_any 1 _ (by omega)).mono ?_;rintro e w7 ⟨rfl,rfl⟩)
     | (go_at_call 252;refine(T16.out _).mono ?_;rintro e w7 ⟨rfl,rfl⟩))
    go_roundw
    case rel=>exact⟨2,by omega,by go_num,HN⟩
    case measure=>simp [RowKit.intOf]
   ·have k0:wr.cell? ⟨w.heap.size+1,2,none⟩=some (.int .i64 0):=by rw [cell_of_row wr (w.heap.size+1) 2 _ _ _ HR.out.arr];rfl
    have kf:=frozen_of_row wr (w.heap.size+1) 2 _ _ HR.out.arr
    have HN:Hid (TRel w (wr.setCell ⟨w.heap.size+1,2,none⟩ (.int .i64 (v3:Int))) (arr3 v1 v2 v3 3)):=Lib.hid (HR.out.put 2 _)
    clear HR
    go_wp2_with (first
     | (go_at_call 210;refine(fieldPlace_any 2 _ (by omega)).mono ?_;rintro e w7 ⟨rfl,rfl⟩)
     | (go_at_call 252;refine(T20.out _).mono ?_;rintro e w7 ⟨rfl,rfl⟩))
    go_roundw
    case rel=>exact⟨3,by omega,by go_num,HN⟩
    case measure=>simp [RowKit.intOf]
  ·obtain rfl:j=3:=by omega
   have k0:wr.cell? ⟨w.heap.size+1,0,none⟩=some (.int .i64 (v1:Int)):=by rw [cell_of_row wr (w.heap.size+1) 0 _ _ _ HR.out.arr];rfl
   have k1:wr.cell? ⟨w.heap.size+1,1,none⟩=some (.int .i64 (v2:Int)):=by rw [cell_of_row wr (w.heap.size+1) 1 _ _ _ HR.out.arr];rfl
   have k2:wr.cell? ⟨w.heap.size+1,2,none⟩=some (.int .i64 (v3:Int)):=by rw [cell_of_row wr (w.heap.size+1) 2 _ _ _ HR.out.arr];rfl
   have b0:=HR.out.box.c0
   have b1:=HR.out.box.c1
   have b2:=HR.out.box.c2
   have b3:=HR.out.box.c3
   have bf:=HR.out.box.fz
   go_wp2_with fail
   go_region_held3 (fun w'=>w'.cell? ⟨w.heap.size+1,0,none⟩=some (.int .i64 (v1:Int))∧w'.cell? ⟨w.heap.size+1,1,none⟩=some (.int .i64 (v2:Int))∧w'.cell? ⟨w.heap.size+1,2,none⟩=some (.int .i64 (v3:Int)))
    (go_keep) ((go_at_call 252;refine(T8.out _).mono ?_;rintro e w7 ⟨rfl,rfl⟩))
   all_goals
    have HB:Hid (Below w.heap.size w wr):=Lib.hid HR.out.below
    clear HR
    go_wp2_with fail
    exact bodyPost_ret (v:=.agg #[.int .i64 v0,.int .i64 (v1:Int),.int .i64 (v2:Int),.int .i64 (v3:Int)]) (by simp [results,Tryz.results234,go_sem,b0,b1,b2,b3]) rfl ⟨rfl,((((HB.out.setCell (Nat.le_refl _) _).setCell (Nat.le_refl _) _).setCell (Nat.le_refl _) _).setCell (Nat.le_refl _) _).drew⟩
end
section
set_option maxRecDepth 20000
open Go.RowKit
theorem made_u8s (n:Nat):(madeCells #[Value.int .u8 0] n).toList=u8s (List.replicate n 0):=by
 rw [toList_madeCells_one]
 unfold u8s
 rw [List.map_replicate];rfl
set_option maxHeartbeats 400000 in
theorem encode_no (r:Rt) (w:World) (h:may r=false) :
  Calls Tryz.prog 186 #[r.val] w fun e w'=>e = .returned (.tuple #[.string ⟨#[]⟩,.int .i64 1])∧Below w.heap.size w w':=by
 have HM:=Lib.hid (fun w=>may_any r w)
 rw [h] at HM
 clear h
 obtain⟨ep,pg,dr,wd⟩:=r
 unfold Rt.val at *
 go_enter Tryz.func186,Tryz.ntmps186
 go_wp2_with fail
 refine(HM.out _).mono ?_
 rintro e w1 ⟨rfl,hb⟩
 have HB:=Lib.hid ((Below.refl _ _).alloc (Nat.le_refl _) (.cells #[.int .i64 ep,.int .i64 pg,.int .i64 dr,.int .i64 wd] 93) |>.trans (Below.mono hb (by simp)))
 clear hb
 go_wp2_with fail
 go_ret2
 exact⟨rfl,HB.out⟩
set_option maxHeartbeats 1600000 in
theorem encode_yes (r:Rt) (w:World) (h:Mays r) :
  Calls Tryz.prog 186 #[r.val] w fun e w'=>e = .returned (.tuple #[.string (strB (block r)),.int .i64 0])∧Below w.heap.size w w':=by
 have HM:=Lib.hid (fun w=>may_any r w)
 rw [h.may] at HM
 have HY:=Lib.hid h
 have q0:=h.e0
 have q1:=h.e1
 clear h
 obtain⟨en,hen⟩:=Int.eq_ofNat_of_zero_le (show 0≤r.ep by omega)
 obtain⟨pn,hpn⟩:=Int.eq_ofNat_of_zero_le (show 0≤r.pg by have:=HY.out.p0;omega)
 obtain⟨dn,hdn⟩:=Int.eq_ofNat_of_zero_le (show 0≤r.dr by have:=HY.out.d0;omega)
 obtain⟨wn,hwn⟩:=Int.eq_ofNat_of_zero_le (show 0≤r.wd by have:=HY.out.w0;omega)
 obtain⟨ep,pg,dr,wd⟩:=r
 simp only at hen hpn hdn hwn q0 q1
 subst hen hpn hdn hwn
 unfold Rt.val at *
 obtain⟨i0,hi,hz0,hz1,hz2⟩:=info_parts Tryz.info5
 have HI:=Lib.hid hi
 have HZ0:=Lib.hid hz0
 have HZ1:=Lib.hid hz1
 have HZ2:=Lib.hid hz2
 clear hi hz0 hz1 hz2
 have HR0:=Lib.hid (RtAt.new w ⟨(en:Int),(pn:Int),(dn:Int),(wn:Int)⟩ 93)
 have HB0:Hid (Below w.heap.size w (w.alloc (.cells #[.int .i64 (en:Int),.int .i64 (pn:Int),.int .i64 (dn:Int),.int .i64 (wn:Int)] 93))):=Lib.hid ((Below.refl _ _).alloc (Nat.le_refl _) _)
 go_enter Tryz.func186,Tryz.ntmps186
 go_wp2_with fail
 have hsz:w.heap.size+1=(w.alloc (.cells #[.int .i64 (en:Int),.int .i64 (pn:Int),.int .i64 (dn:Int),.int .i64 (wn:Int)] 93)).heap.size:=by simp
 refine(HM.out _).mono ?_
 rintro e w1 ⟨rfl,hb⟩
 have HR1:=Lib.hid (HR0.out.below hb)
 have HB1:=Lib.hid (HB0.out.trans (Below.mono hb (by simp)))
 have hg:w.heap.size<w1.heap.size:=by have:=hb.size;simp at this;omega
 clear hb HR0 HB0 hsz HM
 go_wp2_with (refine wpList_make_full _ rfl _ _ 71 rfl 0 5 i0 (.int .u8 0) 1 Tryz.underlying71 HI.out HZ0.out HZ1.out .i64 .i64 116 116 116 rfl rfl rfl rfl (by rw [HZ2.out];omega) (by unfold maxLen;omega) (Nat.zero_le _) ?_)
 intro w2 hown hgrow
 have HRow:Hid (Row5 w2 w1.heap.size 116 (List.replicate 116 0)):=Lib.hid (by rw [made_u8s] at hown;exact hown)
 have hb2:Below w1.heap.size w1 w2:=(Below.refl _ _).grown hgrow (Nat.le_refl _) (fun k e=>by cases e)
 have HR2:=Lib.hid (HR1.out.below hb2)
 have HB2:=Lib.hid (HB1.out.trans (Below.mono hb2 HB1.out.size))
 clear hown hgrow hb2 HR1 HB1
 generalize w1.heap.size=g at *
 have c0:=HR2.out.c0
 go_wp2_with fail
 go_region_with (go_at_call 209;refine(put_8 g 116 0 116 en (List.replicate 116 0) _ (by exact HRow.out.below (Below.refl _ _).drew) (by omega) (by omega)).mono ?_;rintro e w3 ⟨rfl,hR3,hO3⟩)
 have HR3:=Lib.hid (HR2.out.only (Only.of_below (Below.refl _ _).drew |>.trans hO3) (by omega))
 have HB3:Hid (Below w.heap.size w w3):=Lib.hid (hO3.below HB2.out.drew (HB2.out.drew.size) (by omega))
 clear HR2 HB2 HRow c0 hO3
 obtain⟨w4,hcp,hR4,hO4⟩:=copy_name (l:=108) (c:=108) hR3 (o:=8) (by omega) (by omega) 3
 have HRow4:=Lib.hid hR4
 have HR4:=Lib.hid (HR3.out.only hO4 (by omega))
 have HB4:Hid (Below w.heap.size w w4):=Lib.hid (hO4.below HB3.out HB3.out.size (by omega))
 clear hR3 hR4 HR3 HB3 hO4
 have p1:=HR4.out.c1
 have p2:=HR4.out.c2
 have p3:=HR4.out.c3
 go_wp2_with fail
 have H0:Hid (EncRel w (w4.alloc (.cells #[.int .i64 (pn:Int),.int .i64 (dn:Int),.int .i64 (wn:Int)] 262)) g w4.heap.size w.heap.size ⟨(en:Int),(pn:Int),(dn:Int),(wn:Int)⟩ #[.int .i64 (pn:Int),.int .i64 (dn:Int),.int .i64 (wn:Int)] (rows en pn dn wn 0)):=
  Lib.hid ⟨HRow4.out.below ((Below.refl _ _).alloc (Nat.le_refl _) _),HR4.out.below ((Below.refl _ _).alloc (Nat.le_refl _) _),heap_alloc_new w4 _,HB4.out.alloc HB4.out.size _⟩
 have hga:g<w4.heap.size:=HRow4.out.lt
 clear hcp p1 p2 p3 HRow4 HR4 HB4
 generalize w4.alloc (.cells #[.int .i64 (pn:Int),.int .i64 (dn:Int),.int .i64 (wn:Int)] 262)=w5 at *
 generalize w4.heap.size=a at *
 go_loopw [26] (fun iv wr=>∃j:Nat,j≤3∧iv = .int .i64 (j:Int)∧Hid (EncRel w wr g a w.heap.size ⟨(en:Int),(pn:Int),(dn:Int),(wn:Int)⟩ #[.int .i64 (pn:Int),.int .i64 (dn:Int),.int .i64 (wn:Int)] (rows en pn dn wn j))) (fun iv _=>3 - (RowKit.intOf iv).toNat)
 case atStart=>exact⟨0,by omega,by go_num,H0⟩
 case round=>
  obtain⟨j,hj,rfl,HR⟩:=hrel
  clear H0
  by_cases hlt:j<3
  ·have k0:wr.cell? ⟨a,0,none⟩=some (.int .i64 (pn:Int)):=by rw [cell_of_row wr a 0 _ _ _ HR.out.arr];rfl
   have k1:wr.cell? ⟨a,1,none⟩=some (.int .i64 (dn:Int)):=by rw [cell_of_row wr a 1 _ _ _ HR.out.arr];rfl
   have k2:wr.cell? ⟨a,2,none⟩=some (.int .i64 (wn:Int)):=by rw [cell_of_row wr a 2 _ _ _ HR.out.arr];rfl
   have bp:=HY.out.p1
   have bd:=HY.out.d1
   have bw:=HY.out.w1
   simp only at bp bd bw
   have HD:=Lib.hid HR.out.drew
   rcases (show j=0∨j=1∨j=2 by omega) with rfl | rfl | rfl
   ·clear k1 k2
    go_wp2_with fail
    go_region_with (first
     | (go_at_call 210;refine(fieldPlace_any 0 _ (by omega)).mono ?_;rintro e w7 ⟨rfl,rfl⟩)
     | (go_at_call 209;refine(put_4 g 116 12 104 pn _ _ (by exact HD.out.row) (by omega) (by omega)).mono ?_;rintro e w7 ⟨rfl,hR7,hO7⟩))
    all_goals
     have HN:=Lib.hid (HD.out.only hR7 hO7 (by omega) (by omega) (by omega))
     clear hR7 hO7 HR HD
     go_wp2_with fail
     go_roundw
     case rel=>exact⟨1,by omega,by go_num,HN⟩
     case measure=>simp [RowKit.intOf]
   ·clear k0 k2
    go_wp2_with fail
    go_region_with (first
     | (go_at_call 210;refine(fieldPlace_any 1 _ (by omega)).mono ?_;rintro e w7 ⟨rfl,rfl⟩)
     | (go_at_call 209;refine(put_4 g 116 16 100 dn _ _ (by exact HD.out.row) (by omega) (by omega)).mono ?_;rintro e w7 ⟨rfl,hR7,hO7⟩))
    all_goals
     have HN:=Lib.hid (HD.out.only hR7 hO7 (by omega) (by omega) (by omega))
     clear hR7 hO7 HR HD
     go_wp2_with fail
     go_roundw
     case rel=>exact⟨2,by omega,by go_num,HN⟩
     case measure=>simp [RowKit.intOf]
   ·clear k0 k1
    go_wp2_with fail
    go_region_with (first
     | (go_at_call 210;refine(fieldPlace_any 2 _ (by omega)).mono ?_;rintro e w7 ⟨rfl,rfl⟩)
     | (go_at_call 209;refine(put_4 g 116 20 96 wn _ _ (by exact HD.out.row) (by omega) (by omega)).mono ?_;rintro e w7 ⟨rfl,hR7,hO7⟩))
    all_goals
     have HN:=Lib.hid (HD.out.only hR7 hO7 (by omega) (by omega) (by omega))
     clear hR7 hO7 HR HD
     go_wp2_with fail
     go_roundw
     case rel=>exact⟨3,by omega,by go_num,HN⟩
     case measure=>simp [RowKit.intOf]
  ·obtain rfl:j=3:=by omega
   have HO:=Lib.hid HR.out.row
   rw [rows_all] at HO
   have HB:=Lib.hid HR.out.below
   have HRL:=Lib.hid ((HO.out.below (Below.refl _ _).drew).bys (body_dig _))
   clear HR hj hlt
   go_wp2_with fail
   refine wp_region_any (by kernel_rfl) ?_
   refine wpAny_take (i:=0) (v:=.slice (some ⟨g,0,none⟩) 116 116) rfl (by kernel_rfl) (by kernel_rfl) (by kernel_rfl) (fun _ _ _ h=>h) (Or.inl ⟨by kernel_rfl,fun w=>by first | (go_simp;done) | (go_simp;rfl) | rfl⟩) ?_
   refine wpAny_take (i:=2) (v:=.slice (some ⟨g,0,none⟩) 116 116) rfl (by kernel_rfl) (by kernel_rfl) (by kernel_rfl) (fun _ _ _ h=>h) (Or.inl ⟨by kernel_rfl,fun w=>by first | (go_simp;done) | (go_simp;rfl) | rfl⟩) ?_
   refine wpAny_take (i:=3) (v:=.slice (some ⟨g,0,none⟩) 8 116) rfl (by kernel_rfl) (by kernel_rfl) (by kernel_rfl) (fun _ _ _ h=>h) (Or.inl ⟨by kernel_rfl,fun w=>by first | (go_simp;done) | (go_simp;rfl) | rfl⟩) ?_
   refine wpAny_ready (rs:=[1]) (by kernel_rfl) (by simp) ?_
   refine AllReady.cons rfl (fun K hK=>?_) AllReady.nil
   go_simp
   go_wp2_with (go_at_call 211;refine(seal_any (some ⟨g,0,none⟩) 116 116 (body ⟨(en:Int),(pn:Int),(dn:Int),(wn:Int)⟩) _ (by omega) HRL.out).mono ?_;rintro e w7 ⟨rfl,hO7,hb7⟩)
   have HB7:Hid (Below w.heap.size w w7):=Lib.hid (HB.out.drew.trans (Below.mono hb7 HB.out.drew.size))
   have HE:Hid (Bys w7 (some ⟨g,0,none⟩) 8 (be 8 en)):=Lib.hid (by
    have h1:=(HRL.out.below hb7).take (k:=8) (by omega)
    rw [show (body ⟨(en:Int),(pn:Int),(dn:Int),(wn:Int)⟩).take 8=be 8 en from take_app _ _ (be_len _ _)] at h1
    exact h1)
   have HNEW:Hid (∀j u,(u8s (be 8 en))[j]?=some u→w7.cell? ((⟨g,0,none⟩:Addr).add j)=some u):=Lib.hid (by
    obtain⟨ad,e,h1⟩:=HE.out.cells (by omega)
    cases e
    exact h1)
   have HO7:=Lib.hid hO7
   have hwr:w.heap.size≤wr.heap.size:=HB.out.size
   clear hO7 hb7 HO HRL HB
   refine wpAny_ready (rs:=[4]) (by kernel_rfl) (by simp) ?_
   refine AllReady.cons rfl (fun K hK=>?_) AllReady.nil
   refine step_append_lies _ rfl (.tmp 40) (.tmp 42) 71 rfl _ 5 i0 (.int .u8 0) 1 1 Tryz.underlying71 HI.out HZ0.out HZ1.out HZ2.out rfl (by decide) _ (116+4) _ (by kernel_rfl) HO7.out ⟨g,0,none⟩ 8 116 (u8s (be 8 en)) (by kernel_rfl) (by rw [u8s_len,be_len]) HNEW.out (u8s_one _) (by omega) (by unfold maxLen;omega) (by omega) (Nat.le_of_lt (HO7.out.lt _ rfl).2) _ rfl ?_
   intro gN cap w8 hown hgrow hat _
   have HB8:Hid (Below w.heap.size w w8):=Lib.hid (HB7.out.grown hgrow HB7.out.size (fun k e=>(by cases e;exact hwr)))
   have HY8:Hid (Bys w8 (some ⟨gN,0,none⟩) 128 (block ⟨(en:Int),(pn:Int),(dn:Int),(wn:Int)⟩)):=Lib.hid (Bys.own (bs:=sealedB _++be 8 en) (by rw [u8s_append];exact hown) (block_dig _))
   have hcv:=HY8.out.conv cap
   clear hown hgrow hat HB7 HO7 HNEW HE
   refine hK _ _ ?_
   clear hK K
   refine wpAny_ready (rs:=[5]) (by kernel_rfl) (by simp) ?_
   refine AllReady.cons rfl (fun K hK=>?_) AllReady.nil
   go_simp
   refine hK _ _ ?_
   clear hK K
   refine wpAny_done (by kernel_rfl) ?_ _
   go_wp2_with fail
   go_ret2
   exact⟨rfl,HB8.out⟩
end
section
set_option maxRecDepth 20000
open Go.RowKit
theorem toldI_or (s:List Nat) (hd:∀x∈s,x<256):toldI s=told s∨(may (toldI s)=false∧may (told s)=false):=by
 have h8:val (s.take 8)<18446744073709551616:=val_take_lt s 8 8 hd (Nat.le_refl _)
 by_cases h:val (s.take 8)<9223372036854775808
 ·left
  unfold toldI told
  rw [toI_small h]
 ·right
  constructor
  ·cases hb:may (toldI s) with
   | false=>rfl
   | true=>
    have h1:=(may_yes hb).e0
    have h2:=(may_yes hb).e1
    unfold toldI at h1 h2
    simp only at h1 h2
    unfold toI at h1 h2
    rw [if_neg h] at h1 h2
    omega
  ·cases hb:may (told s) with
   | false=>rfl
   | true=>
    have h2:=(may_yes hb).e1
    unfold told at h2
    simp only at h2
    omega
theorem zs_dig:∀x∈zs128,x<256:=dig_zeros 128
theorem zeros_conv {w:World} {g:Nat} (h:w.ownsRow 0 5 1 (.slice (some ⟨g,0,none⟩) 128 128) 128 (madeCells #[Value.int .u8 0] (128*1)).toList) :
  (convert 71 9 (.slice (some ⟨g,0,none⟩) 128 128)).run Tryz.prog w = .ok (.string (strB zs128)) w:=by
 rw [Nat.mul_one,made_u8s] at h
 exact(Row5.bys h (dig_zeros 128)).conv 128
section
variable (S:ByteArray) (s:List Nat) (w:World)
set_option maxHeartbeats 400000 in
theorem decode_len (hS:IsS S s) (h:s.length≠128):Calls Tryz.prog 202 #[.string S] w fun e w'=>e = .returned (.tuple #[Rt.none_.val,.int .i64 1])∧Below w.heap.size w w':=by
 have hd:((S.size:Int) != 128)=true:=by rw [hS.size];simp;omega
 clear h hS
 unfold Rt.val Rt.none_
 go_enter Tryz.func202,Tryz.ntmps202
 go_wp2_with fail
 exact bodyPost_ret (v:=.tuple #[.agg #[.int .i64 0,.int .i64 0,.int .i64 0,.int .i64 0],.int .i64 1]) (by simp [results,Tryz.results202,go_sem]) rfl ⟨rfl,(Below.refl _ _).alloc (Nat.le_refl _) _⟩
set_option maxHeartbeats 800000 in
theorem decode_zeros (hS:IsS S s) (hl:s.length=128) (h:s=zs128):Calls Tryz.prog 202 #[.string S] w fun e w'=>e = .returned (.tuple #[Rt.none_.val,.int .i64 5])∧Below w.heap.size w w':=by
 have hsz:S.size=128:=by rw [hS.size,hl]
 have he:=hS.yes (IsS.mk_ zs128 zs_dig) h
 clear h hS
 unfold Rt.val Rt.none_
 obtain⟨i0,hi,hz0,hz1,hz2⟩:=info_parts Tryz.info5
 have HI:=Lib.hid hi
 have HZ0:=Lib.hid hz0
 have HZ1:=Lib.hid hz1
 have HZ2:=Lib.hid hz2
 clear hi hz0 hz1 hz2
 go_enter Tryz.func202,Tryz.ntmps202
 go_wp2_with (refine wpList_make_full _ rfl _ _ 71 rfl 0 5 i0 (.int .u8 0) 1 Tryz.underlying71 HI.out HZ0.out HZ1.out .i64 .i64 128 128 128 rfl rfl rfl rfl (by rw [HZ2.out];omega) (by unfold maxLen;omega) (Nat.zero_le _) ?_)
 intro w2 hown hgrow
 have HBX:Hid (RtAt w2 w.heap.size 93 Rt.none_):=Lib.hid ((RtAt.new w Rt.none_ 93).below ((Below.refl _ _).grown hgrow (Nat.le_refl _) (fun k e=>by cases e)))
 have HB2:Hid (Below w.heap.size w w2):=Lib.hid (((Below.refl _ _).alloc (Nat.le_refl _) _).grown hgrow (by simp) (fun k e=>by cases e))
 have hcv:=zeros_conv hown
 clear hown hgrow HI HZ0 HZ1 HZ2
 generalize strB zs128=Z at *
 have b0:=HBX.out.c0
 have b1:=HBX.out.c1
 have b2:=HBX.out.c2
 have b3:=HBX.out.c3
 have bf:=HBX.out.fz
 go_wp2_with fail
 exact bodyPost_ret (v:=.tuple #[.agg #[.int .i64 0,.int .i64 0,.int .i64 0,.int .i64 0],.int .i64 5]) (by simp [results,Tryz.results202,go_sem,b0,b1,b2,b3]) rfl ⟨rfl,(((HB2.out.setCell (Nat.le_refl _) _).setCell (Nat.le_refl _) _).setCell (Nat.le_refl _) _).setCell (Nat.le_refl _) _⟩
set_option maxHeartbeats 800000 in
theorem decode_torn (hS:IsS S s) (hl:s.length=128) (h:s≠zs128) (h8:s.take 8≠s.drop 120):Calls Tryz.prog 202 #[.string S] w fun e w'=>e = .returned (.tuple #[Rt.none_.val,.int .i64 4])∧Below w.heap.size w w':=by
 have hsz:S.size=128:=by rw [hS.size,hl]
 have he:=hS.no (IsS.mk_ zs128 zs_dig) h
 have e1:=hS.ext 0 8
 have e2:=hS.ext 120 128
 rw [List.drop_zero,Nat.sub_zero] at e1
 rw [List.take_of_length_le (by rw [List.length_drop];omega)] at e2
 have hd:=e1.no e2 h8
 clear h hS h8 e1 e2
 unfold Rt.val Rt.none_
 obtain⟨i0,hi,hz0,hz1,hz2⟩:=info_parts Tryz.info5
 have HI:=Lib.hid hi
 have HZ0:=Lib.hid hz0
 have HZ1:=Lib.hid hz1
 have HZ2:=Lib.hid hz2
 clear hi hz0 hz1 hz2
 go_enter Tryz.func202,Tryz.ntmps202
 go_wp2_with (refine wpList_make_full _ rfl _ _ 71 rfl 0 5 i0 (.int .u8 0) 1 Tryz.underlying71 HI.out HZ0.out HZ1.out .i64 .i64 128 128 128 rfl rfl rfl rfl (by rw [HZ2.out];omega) (by unfold maxLen;omega) (Nat.zero_le _) ?_)
 intro w2 hown hgrow
 have HBX:Hid (RtAt w2 w.heap.size 93 Rt.none_):=Lib.hid ((RtAt.new w Rt.none_ 93).below ((Below.refl _ _).grown hgrow (Nat.le_refl _) (fun k e=>by cases e)))
 have HB2:Hid (Below w.heap.size w w2):=Lib.hid (((Below.refl _ _).alloc (Nat.le_refl _) _).grown hgrow (by simp) (fun k e=>by cases e))
 have hcv:=zeros_conv hown
 clear hown hgrow HI HZ0 HZ1 HZ2
 generalize strB zs128=Z at *
 have b0:=HBX.out.c0
 have b1:=HBX.out.c1
 have b2:=HBX.out.c2
 have b3:=HBX.out.c3
 have bf:=HBX.out.fz
 go_wp2_with fail
 go_quiet (fail)
 clear b0 b1 b2 b3 bf
 have hbq:Below w2.heap.size w2 (w2.drewN nq):=below_drewN (Below.refl _ _) nq
 have HBX3:=Lib.hid (HBX.out.below hbq)
 have HB3:=Lib.hid (HB2.out.trans (Below.mono hbq HB2.out.size))
 clear hbq HBX HB2 hcv
 generalize w2.drewN nq=w3 at *
 have b0:=HBX3.out.c0
 have b1:=HBX3.out.c1
 have b2:=HBX3.out.c2
 have b3:=HBX3.out.c3
 have bf:=HBX3.out.fz
 go_wp2_with fail
 exact bodyPost_ret (v:=.tuple #[.agg #[.int .i64 0,.int .i64 0,.int .i64 0,.int .i64 0],.int .i64 4]) (by simp [results,Tryz.results202,go_sem,b0,b1,b2,b3]) rfl ⟨rfl,(((HB3.out.setCell (Nat.le_refl _) _).setCell (Nat.le_refl _) _).setCell (Nat.le_refl _) _).setCell (Nat.le_refl _) _⟩
set_option maxHeartbeats 800000 in
theorem decode_harm0 (hS:IsS S s) (hl:s.length=128) (h:s≠zs128) (h8:s.take 8=s.drop 120) (hm:may (toldI s)=false):Calls Tryz.prog 202 #[.string S] w fun e w'=>e = .returned (.tuple #[Rt.none_.val,.int .i64 13])∧Below w.heap.size w w':=by
 have HS:=Lib.hid hS
 have hsz:S.size=128:=by rw [hS.size,hl]
 have he:=hS.no (IsS.mk_ zs128 zs_dig) h
 have e1:=hS.ext 0 8
 have e2:=hS.ext 120 128
 rw [List.drop_zero,Nat.sub_zero] at e1
 rw [List.take_of_length_le (by rw [List.length_drop];omega)] at e2
 have hd:=e1.yes e2 h8
 have HT:=Lib.hid (fun w=>told_any S s w HS.out hl)
 generalize toldI s=r at *
 obtain⟨ep,pg,dr,wd⟩:=r
 clear h hS h8 e1 e2
 unfold Rt.val at *
 try unfold Rt.none_
 obtain⟨i0,hi,hz0,hz1,hz2⟩:=info_parts Tryz.info5
 have HI:=Lib.hid hi
 have HZ0:=Lib.hid hz0
 have HZ1:=Lib.hid hz1
 have HZ2:=Lib.hid hz2
 clear hi hz0 hz1 hz2
 go_enter Tryz.func202,Tryz.ntmps202
 go_wp2_with (refine wpList_make_full _ rfl _ _ 71 rfl 0 5 i0 (.int .u8 0) 1 Tryz.underlying71 HI.out HZ0.out HZ1.out .i64 .i64 128 128 128 rfl rfl rfl rfl (by rw [HZ2.out];omega) (by unfold maxLen;omega) (Nat.zero_le _) ?_)
 intro w2 hown hgrow
 have HBX:Hid (RtAt w2 w.heap.size 93 Rt.none_):=Lib.hid ((RtAt.new w Rt.none_ 93).below ((Below.refl _ _).grown hgrow (Nat.le_refl _) (fun k e=>by cases e)))
 have HB2:Hid (Below w.heap.size w w2):=Lib.hid (((Below.refl _ _).alloc (Nat.le_refl _) _).grown hgrow (by simp) (fun k e=>by cases e))
 have hcv:=zeros_conv hown
 clear hown hgrow HI HZ0 HZ1 HZ2
 generalize strB zs128=Z at *
 have b0:=HBX.out.c0
 have b1:=HBX.out.c1
 have b2:=HBX.out.c2
 have b3:=HBX.out.c3
 have bf:=HBX.out.fz
 go_wp2_with fail
 go_quiet (fail)
 clear b0 b1 b2 b3 bf
 have hbq:Below w2.heap.size w2 (w2.drewN nq):=below_drewN (Below.refl _ _) nq
 have HBX3:=Lib.hid (HBX.out.below hbq)
 have HB3:=Lib.hid (HB2.out.trans (Below.mono hbq HB2.out.size))
 clear hbq HBX HB2 hcv he hd
 generalize w2.drewN nq=w3 at *
 go_wp2_with fail
 refine(HT.out _).mono ?_
 rintro e w4 ⟨rfl,hb4⟩
 have HBX4:=Lib.hid (HBX3.out.below hb4)
 have HB4:=Lib.hid (HB3.out.trans (Below.mono hb4 HB3.out.size))
 clear hb4 HBX3 HB3 HT
 go_wp2_with fail
 have HR5:=Lib.hid (RtAt.new w4 ⟨ep,pg,dr,wd⟩ 93)
 have hb5:Below w4.heap.size w4 (w4.alloc (.cells #[.int .i64 ep,.int .i64 pg,.int .i64 dr,.int .i64 wd] 93)):=(Below.refl _ _).alloc (Nat.le_refl _) _
 have HBX5:=Lib.hid (HBX4.out.below hb5)
 have HB5:=Lib.hid (HB4.out.trans (Below.mono hb5 HB4.out.size))
 have hne:w.heap.size≠w4.heap.size:=by have:=HBX4.out.lt;omega
 clear hb5 HBX4 HB4
 refine(encode_no ⟨ep,pg,dr,wd⟩ _ hm).mono ?_
 rintro e w6 ⟨rfl,hb6⟩
 have HR6:=Lib.hid (HR5.out.below hb6)
 have HBX6:=Lib.hid (HBX5.out.below hb6)
 have HB6:=Lib.hid (HB5.out.trans (Below.mono hb6 HB5.out.size))
 clear hb6 HR5 HBX5 HB5
 have b0:=HBX6.out.c0
 have b1:=HBX6.out.c1
 have b2:=HBX6.out.c2
 have b3:=HBX6.out.c3
 have bf:=HBX6.out.fz
 have r0:=HR6.out.c0
 have r1:=HR6.out.c1
 have r2:=HR6.out.c2
 have r3:=HR6.out.c3
 generalize w4.heap.size=q at *
 go_wp2_with fail
 exact bodyPost_ret (v:=.tuple #[.agg #[.int .i64 0,.int .i64 0,.int .i64 0,.int .i64 0],.int .i64 13]) (by simp [results,Tryz.results202,go_sem,b0,b1,b2,b3]) rfl ⟨rfl,(((HB6.out.setCell (Nat.le_refl _) _).setCell (Nat.le_refl _) _).setCell (Nat.le_refl _) _).setCell (Nat.le_refl _) _⟩
set_option maxHeartbeats 800000 in
theorem decode_harm1 (hS:IsS S s) (hl:s.length=128) (h:s≠zs128) (h8:s.take 8=s.drop 120) (hm:may (toldI s)=true) (hb:block (toldI s)≠s):Calls Tryz.prog 202 #[.string S] w fun e w'=>e = .returned (.tuple #[Rt.none_.val,.int .i64 13])∧Below w.heap.size w w':=by
 have HS:=Lib.hid hS
 have hsz:S.size=128:=by rw [hS.size,hl]
 have he:=hS.no (IsS.mk_ zs128 zs_dig) h
 have e1:=hS.ext 0 8
 have e2:=hS.ext 120 128
 rw [List.drop_zero,Nat.sub_zero] at e1
 rw [List.take_of_length_le (by rw [List.length_drop];omega)] at e2
 have hd:=e1.yes e2 h8
 have hq:=(IsS.mk_ (block (toldI s)) (block_dig _)).no hS hb
 have HT:=Lib.hid (fun w=>told_any S s w HS.out hl)
 generalize toldI s=r at *
 obtain⟨ep,pg,dr,wd⟩:=r
 clear h hS h8 e1 e2
 unfold Rt.val at *
 try unfold Rt.none_
 obtain⟨i0,hi,hz0,hz1,hz2⟩:=info_parts Tryz.info5
 have HI:=Lib.hid hi
 have HZ0:=Lib.hid hz0
 have HZ1:=Lib.hid hz1
 have HZ2:=Lib.hid hz2
 clear hi hz0 hz1 hz2
 go_enter Tryz.func202,Tryz.ntmps202
 go_wp2_with (refine wpList_make_full _ rfl _ _ 71 rfl 0 5 i0 (.int .u8 0) 1 Tryz.underlying71 HI.out HZ0.out HZ1.out .i64 .i64 128 128 128 rfl rfl rfl rfl (by rw [HZ2.out];omega) (by unfold maxLen;omega) (Nat.zero_le _) ?_)
 intro w2 hown hgrow
 have HBX:Hid (RtAt w2 w.heap.size 93 Rt.none_):=Lib.hid ((RtAt.new w Rt.none_ 93).below ((Below.refl _ _).grown hgrow (Nat.le_refl _) (fun k e=>by cases e)))
 have HB2:Hid (Below w.heap.size w w2):=Lib.hid (((Below.refl _ _).alloc (Nat.le_refl _) _).grown hgrow (by simp) (fun k e=>by cases e))
 have hcv:=zeros_conv hown
 clear hown hgrow HI HZ0 HZ1 HZ2
 generalize strB zs128=Z at *
 have b0:=HBX.out.c0
 have b1:=HBX.out.c1
 have b2:=HBX.out.c2
 have b3:=HBX.out.c3
 have bf:=HBX.out.fz
 go_wp2_with fail
 go_quiet (fail)
 clear b0 b1 b2 b3 bf
 have hbq:Below w2.heap.size w2 (w2.drewN nq):=below_drewN (Below.refl _ _) nq
 have HBX3:=Lib.hid (HBX.out.below hbq)
 have HB3:=Lib.hid (HB2.out.trans (Below.mono hbq HB2.out.size))
 clear hbq HBX HB2 hcv he hd
 generalize w2.drewN nq=w3 at *
 go_wp2_with fail
 refine(HT.out _).mono ?_
 rintro e w4 ⟨rfl,hb4⟩
 have HBX4:=Lib.hid (HBX3.out.below hb4)
 have HB4:=Lib.hid (HB3.out.trans (Below.mono hb4 HB3.out.size))
 clear hb4 HBX3 HB3 HT
 go_wp2_with fail
 have HR5:=Lib.hid (RtAt.new w4 ⟨ep,pg,dr,wd⟩ 93)
 have hb5:Below w4.heap.size w4 (w4.alloc (.cells #[.int .i64 ep,.int .i64 pg,.int .i64 dr,.int .i64 wd] 93)):=(Below.refl _ _).alloc (Nat.le_refl _) _
 have HBX5:=Lib.hid (HBX4.out.below hb5)
 have HB5:=Lib.hid (HB4.out.trans (Below.mono hb5 HB4.out.size))
 have hne:w.heap.size≠w4.heap.size:=by have:=HBX4.out.lt;omega
 clear hb5 HBX4 HB4
 refine(encode_yes ⟨ep,pg,dr,wd⟩ _ (may_yes hm)).mono ?_
 rintro e w6 ⟨rfl,hb6⟩
 have HR6:=Lib.hid (HR5.out.below hb6)
 have HBX6:=Lib.hid (HBX5.out.below hb6)
 have HB6:=Lib.hid (HB5.out.trans (Below.mono hb6 HB5.out.size))
 clear hb6 HR5 HBX5 HB5
 have b0:=HBX6.out.c0
 have b1:=HBX6.out.c1
 have b2:=HBX6.out.c2
 have b3:=HBX6.out.c3
 have bf:=HBX6.out.fz
 have r0:=HR6.out.c0
 have r1:=HR6.out.c1
 have r2:=HR6.out.c2
 have r3:=HR6.out.c3
 generalize w4.heap.size=q at *
 clear hm hb
 generalize strB (block _)=B at *
 go_wp2_with fail
 exact bodyPost_ret (v:=.tuple #[.agg #[.int .i64 0,.int .i64 0,.int .i64 0,.int .i64 0],.int .i64 13]) (by simp [results,Tryz.results202,go_sem,b0,b1,b2,b3]) rfl ⟨rfl,(((HB6.out.setCell (Nat.le_refl _) _).setCell (Nat.le_refl _) _).setCell (Nat.le_refl _) _).setCell (Nat.le_refl _) _⟩
set_option maxHeartbeats 800000 in
theorem decode_good (hS:IsS S s) (hl:s.length=128) (h:s≠zs128) (h8:s.take 8=s.drop 120) (hm:may (toldI s)=true) (hb:block (toldI s)=s):Calls Tryz.prog 202 #[.string S] w fun e w'=>e = .returned (.tuple #[(toldI s).val,.int .i64 0])∧Below w.heap.size w w':=by
 have HS:=Lib.hid hS
 have hsz:S.size=128:=by rw [hS.size,hl]
 have he:=hS.no (IsS.mk_ zs128 zs_dig) h
 have e1:=hS.ext 0 8
 have e2:=hS.ext 120 128
 rw [List.drop_zero,Nat.sub_zero] at e1
 rw [List.take_of_length_le (by rw [List.length_drop];omega)] at e2
 have hd:=e1.yes e2 h8
 have hq:=(IsS.mk_ (block (toldI s)) (block_dig _)).yes hS hb
 have HT:=Lib.hid (fun w=>told_any S s w HS.out hl)
 generalize toldI s=r at *
 obtain⟨ep,pg,dr,wd⟩:=r
 clear h hS h8 e1 e2
 unfold Rt.val at *
 try unfold Rt.none_
 obtain⟨i0,hi,hz0,hz1,hz2⟩:=info_parts Tryz.info5
 have HI:=Lib.hid hi
 have HZ0:=Lib.hid hz0
 have HZ1:=Lib.hid hz1
 have HZ2:=Lib.hid hz2
 clear hi hz0 hz1 hz2
 go_enter Tryz.func202,Tryz.ntmps202
 go_wp2_with (refine wpList_make_full _ rfl _ _ 71 rfl 0 5 i0 (.int .u8 0) 1 Tryz.underlying71 HI.out HZ0.out HZ1.out .i64 .i64 128 128 128 rfl rfl rfl rfl (by rw [HZ2.out];omega) (by unfold maxLen;omega) (Nat.zero_le _) ?_)
 intro w2 hown hgrow
 have HBX:Hid (RtAt w2 w.heap.size 93 Rt.none_):=Lib.hid ((RtAt.new w Rt.none_ 93).below ((Below.refl _ _).grown hgrow (Nat.le_refl _) (fun k e=>by cases e)))
 have HB2:Hid (Below w.heap.size w w2):=Lib.hid (((Below.refl _ _).alloc (Nat.le_refl _) _).grown hgrow (by simp) (fun k e=>by cases e))
 have hcv:=zeros_conv hown
 clear hown hgrow HI HZ0 HZ1 HZ2
 generalize strB zs128=Z at *
 have b0:=HBX.out.c0
 have b1:=HBX.out.c1
 have b2:=HBX.out.c2
 have b3:=HBX.out.c3
 have bf:=HBX.out.fz
 go_wp2_with fail
 go_quiet (fail)
 clear b0 b1 b2 b3 bf
 have hbq:Below w2.heap.size w2 (w2.drewN nq):=below_drewN (Below.refl _ _) nq
 have HBX3:=Lib.hid (HBX.out.below hbq)
 have HB3:=Lib.hid (HB2.out.trans (Below.mono hbq HB2.out.size))
 clear hbq HBX HB2 hcv he hd
 generalize w2.drewN nq=w3 at *
 go_wp2_with fail
 refine(HT.out _).mono ?_
 rintro e w4 ⟨rfl,hb4⟩
 have HBX4:=Lib.hid (HBX3.out.below hb4)
 have HB4:=Lib.hid (HB3.out.trans (Below.mono hb4 HB3.out.size))
 clear hb4 HBX3 HB3 HT
 go_wp2_with fail
 have HR5:=Lib.hid (RtAt.new w4 ⟨ep,pg,dr,wd⟩ 93)
 have hb5:Below w4.heap.size w4 (w4.alloc (.cells #[.int .i64 ep,.int .i64 pg,.int .i64 dr,.int .i64 wd] 93)):=(Below.refl _ _).alloc (Nat.le_refl _) _
 have HBX5:=Lib.hid (HBX4.out.below hb5)
 have HB5:=Lib.hid (HB4.out.trans (Below.mono hb5 HB4.out.size))
 have hne:w.heap.size≠w4.heap.size:=by have:=HBX4.out.lt;omega
 clear hb5 HBX4 HB4
 refine(encode_yes ⟨ep,pg,dr,wd⟩ _ (may_yes hm)).mono ?_
 rintro e w6 ⟨rfl,hb6⟩
 have HR6:=Lib.hid (HR5.out.below hb6)
 have HBX6:=Lib.hid (HBX5.out.below hb6)
 have HB6:=Lib.hid (HB5.out.trans (Below.mono hb6 HB5.out.size))
 clear hb6 HR5 HBX5 HB5
 have b0:=HBX6.out.c0
 have b1:=HBX6.out.c1
 have b2:=HBX6.out.c2
 have b3:=HBX6.out.c3
 have bf:=HBX6.out.fz
 have r0:=HR6.out.c0
 have r1:=HR6.out.c1
 have r2:=HR6.out.c2
 have r3:=HR6.out.c3
 generalize w4.heap.size=q at *
 clear hm hb
 generalize strB (block _)=B at *
 go_wp2_with fail
 exact bodyPost_ret (v:=.tuple #[.agg #[.int .i64 ep,.int .i64 pg,.int .i64 dr,.int .i64 wd],.int .i64 0]) (by simp [results,Tryz.results202,go_sem,b0,b1,b2,b3]) rfl ⟨rfl,(((HB6.out.setCell (Nat.le_refl _) _).setCell (Nat.le_refl _) _).setCell (Nat.le_refl _) _).setCell (Nat.le_refl _) _⟩
theorem decode_any (hS:IsS S s):Calls Tryz.prog 202 #[.string S] w fun e w'=>e = .returned (.tuple #[(decR s).val,.int .i64 (decE s)])∧Below w.heap.size w w':=by
 by_cases hl:s.length=128
 ·by_cases hz:s=zs128
  ·have hE:decE s=5:=by unfold decE;rw [if_neg (by simp [hl]),if_pos hz]
   rw [hE,decR_no (by rw [hE];omega)]
   exact decode_zeros S s w hS hl hz
  ·by_cases h8:s.take 8=s.drop 120
   ·obtain⟨h1,h2,h3⟩:=dec_other hl hz h8 (toldI_or s hS.dig)
    by_cases hm:may (toldI s)=true
    ·by_cases hb:block (toldI s)=s
     ·obtain⟨h4,h5⟩:=h3 hm hb
      rw [h4,h5]
      exact decode_good S s w hS hl hz h8 hm hb
     ·have hE:=h2 hm hb
      rw [hE,decR_no (by rw [hE];omega)]
      exact decode_harm1 S s w hS hl hz h8 hm hb
    ·have hm0:may (toldI s)=false:=by simpa using hm
     have hE:=h1 hm0
     rw [hE,decR_no (by rw [hE];omega)]
     exact decode_harm0 S s w hS hl hz h8 hm0
   ·have hE:decE s=4:=by unfold decE;rw [if_neg (by simp [hl]),if_neg hz,if_pos h8]
    rw [hE,decR_no (by rw [hE];omega)]
    exact decode_torn S s w hS hl hz h8
 ·have hE:decE s=1:=by unfold decE;rw [if_pos hl]
  rw [hE,decR_no (by rw [hE];omega)]
  exact decode_len S s w hS hl
end
end
end Go.Proofs.YtmbecjlioogbhaaGreatDoor
