/- Texts PLoad to POpen of this seat, laid into one. -/
import Derived.Deep.RegionHeld3
import Derived.Test.YtmbecjlioogbhaaGreatDoorM09
import Derived.Test.YtmbecjlioogbhaaGreatDoorM13
set_option linter.unusedVariables false
set_option linter.unusedSimpArgs false
set_option linter.constructorNameAsVariable false
namespace Go.Proofs.YtmbecjlioogbhaaGreatDoor
section
set_option maxRecDepth 20000
open Go.RowKit
def pgOf (m:Dsk):Nat:=min (m.out.length / 4) 512
theorem pagesOf_any {w:World} {d:Nat} {F:List Nat} {m:Dsk} (h:Dk w d F m) (hl:m.out.length≤2048):Calls Tryz.prog 74 #[.pointer (some ⟨d,0,none⟩)] w fun e w'=>e = .returned (.int .i64 (pgOf m:Int))∧w=w':=by
 have HS:=Lib.hid (h.sectors m.out.length rfl)
 have HP:Hid (pgOf m=m.out.length / 4):=Lib.hid (by unfold pgOf;omega)
 rw [HP.out]
 clear h
 generalize m.out.length=n at *
 have hq:IntKind.i64.wrap (Int.tdiv (n:Int) 4)=((n / 4:Nat):Int):=by rw [Int.tdiv_eq_ediv_of_nonneg (by omega),IntKind.wrap_i64];omega
 have hq2:Int.tdiv (n:Int) 4=((n / 4:Nat):Int):=by rw [Int.tdiv_eq_ediv_of_nonneg (by omega)];omega
 have hq3:wrap64 ((n / 4:Nat):Int)=((n / 4:Nat):Int):=by unfold wrap64;omega
 have hm:min ((n / 4:Nat):Int) 512=((n / 4:Nat):Int):=by omega
 have hle:((n / 4:Nat):Int)≤512:=by omega
 generalize n / 4=q at *
 go_enter Tryz.func74,Tryz.ntmps74
 go_wp2_with (go_at_call 126;refine HS.out.mono ?_;rintro e w7 ⟨rfl,rfl⟩)
 go_ret
 refine⟨?_,rfl⟩
 first
  | rfl
  | simp [hm]
def dirBs (m:Dsk) (r:Rt):List Nat:=pageB m.last r.dr.toNat
def lfM (m:Dsk) (r:Rt) (lv:Nat→Nat):Nat→Int × (Nat→Nat)
 | 0=>(0,fun _=>0)
 | i+1=>if (lfM m r lv i).1≠0 then lfM m r lv i else leafM m r lv (lfM m r lv i).2 i
theorem lfM_stop {m:Dsk} {r:Rt} {lv:Nat→Nat} {i:Nat} (h:(lfM m r lv i).1≠0) (j:Nat):lfM m r lv (i+j)=lfM m r lv i:=by
 induction j with
 | zero=>rfl
 | succ j ih=>show (if (lfM m r lv (i+j)).1≠0 then lfM m r lv (i+j) else _)=_;rw [ih,if_pos h]
theorem lfM_succ {m:Dsk} {r:Rt} {lv:Nat→Nat} {i:Nat} (h:(lfM m r lv i).1=0):lfM m r lv (i+1)=leafM m r lv (lfM m r lv i).2 i:=by
 show (if (lfM m r lv i).1≠0 then _ else _)=_;rw [if_neg (by simpa using h)]
def loadEr (m:Dsk) (r:Rt):Int:=
 if may r=false∨(pgOf m:Int)<r.pg then 13 else if Tb.dirE 512 (dirBs m r)≠0 then 13
 else if (lfM m r (Tb.valB (dirBs m r)) 4).1≠0 then (lfM m r (Tb.valB (dirBs m r)) 4).1
 else if (pgsM r (Tb.valB (dirBs m r)) (lfM m r (Tb.valB (dirBs m r)) 4).2).2=false∨Bi.rowF (pgsM r (Tb.valB (dirBs m r)) (lfM m r (Tb.valB (dirBs m r)) 4).2).1 64≠Bi.rowF (Bi.trs (Tb.dsB (dirBs m r))) 64 then 13 else 0
def loadSt (m:Dsk) (r:Rt):St:=⟨r,Tb.valB (dirBs m r),(lfM m r (Tb.valB (dirBs m r)) 4).2,some (pgsM r (Tb.valB (dirBs m r)) (lfM m r (Tb.valB (dirBs m r)) 4).2).1⟩
theorem Stt.ten {w:World} {g pt:Nat} {pu:Option Addr} {r:Rt} {lv tb:Nat→Nat} (h:Stt w g pt pu r lv tb) :
  w.cell? ⟨g,0,none⟩=some (.int .i64 r.ep)∧w.cell? ⟨g,1,none⟩=some (.int .i64 r.pg)∧w.cell? ⟨g,2,none⟩=some (.int .i64 r.dr)∧w.cell? ⟨g,3,none⟩=some (.int .i64 r.wd)∧w.cell? ⟨g,4,none⟩=some (.int .i64 (lv 0:Nat))∧w.cell? ⟨g,5,none⟩=some (.int .i64 (lv 1:Nat))∧w.cell? ⟨g,6,none⟩=some (.int .i64 (lv 2:Nat))∧w.cell? ⟨g,7,none⟩=some (.int .i64 (lv 3:Nat))∧w.cell? ⟨g,8,none⟩=some (.pointer (some ⟨pt,0,none⟩))∧w.cell? ⟨g,9,none⟩=some (.pointer pu):=
 ⟨h.cell 0 _ rfl,h.cell 1 _ rfl,h.cell 2 _ rfl,h.cell 3 _ rfl,h.cell 4 _ rfl,h.cell 5 _ rfl,h.cell 6 _ rfl,h.cell 7 _ rfl,h.cell 8 _ rfl,h.cell 9 _ rfl⟩
theorem lfM_load {m:Dsk} {r:Rt} {bs:List Nat} {lv:Nat→Nat} (h1:¬ (may r=false∨(pgOf m:Int)<r.pg)) (h2:dirBs m r=bs) (h3:Tb.valB bs=lv) (h4:Tb.dirE 512 bs=0) (h5:(lfM m r lv 4).1=0) :
  loadEr m r=if (pgsM r lv (lfM m r lv 4).2).2=false∨Bi.rowF (pgsM r lv (lfM m r lv 4).2).1 64≠Bi.rowF (Bi.trs (Tb.dsB bs)) 64 then 13 else 0:=by
 unfold loadEr
 rw [if_neg h1,h2,if_neg (by simpa using h4),h3,if_neg (by simpa using h5)]
abbrev zeroSt:Array Value:=#[.int .i64 0,.int .i64 0,.int .i64 0,.int .i64 0,.int .i64 0,.int .i64 0,.int .i64 0,.int .i64 0,.pointer none,.pointer none]
theorem zeroSt_one:(#[.int .i64 0,.int .i64 0,.int .i64 0,.int .i64 0,.int .i64 0,.int .i64 0,.int .i64 0,.int .i64 0,.pointer none,.pointer none]:Array Value).all (·.oneCell')=true:=by simp [Value.oneCell']
theorem stA_one (r:Rt) (lv:Nat→Nat) (pt pu:Option Addr):(stA r lv pt pu).all (·.oneCell')=true:=by simp [stA,Value.oneCell']
def LoadR (w w':World) (m:Dsk) (r:Rt) (e:Ending):Prop:=
 (loadEr m r≠0∧e = .returned (.tuple #[.agg zeroSt,.int .i64 (loadEr m r)])) ∨
 (loadEr m r=0∧∃pt gu bu,e = .returned (.tuple #[.agg (stA r (loadSt m r).lv (some ⟨pt,0,none⟩) (some ⟨gu,0,none⟩)),.int .i64 0])∧w.heap.size≤pt∧w.heap.size≤gu∧w.heap.size≤bu∧Tb.Tab w' pt (loadSt m r).tb∧Stp w' (some ⟨gu,0,none⟩) (loadSt m r).us)
theorem size98:(Tryz.prog.info? 98).map (·.size)=some 10:=by kernel_rfl
theorem below_row {B g:Nat} {w0 w:World} (hb:Below B w0 w) (hBg:B≤g) (cs:Array Value):Below B w0 (w.setRow g cs):=
 hb.trans ⟨rfl,rfl,rfl,by simp [World.setRow],fun k hk=>setRow_other w g k cs (by omega)⟩
structure LdP (w W:World) (gr b8 gu bu:Nat) (lv:Nat→Nat) (bs:List Nat):Prop where
 c8:W.heap[b8]?=some (.cells #[.int .i64 (lv 0:Nat),.int .i64 (lv 1:Nat),.int .i64 (lv 2:Nat),.int .i64 (lv 3:Nat),.pointer (some ⟨gu,0,none⟩)] 199 (0,0))
 sat:Bi.Sat W gu bu 512 (Bi.trs (Tb.dsB bs))
 zr:W.heap[gr]?=some (.cells zeroSt 98 (0,0))
 bel:Below w.heap.size w W
 hi:w.heap.size≤gr
theorem LdP.below {w W W':World} {gr b8 gu bu:Nat} {lv:Nat→Nat} {bs:List Nat} (h:LdP w W gr b8 gu bu lv bs) (hb:Below W.heap.size W W'):LdP w W' gr b8 gu bu lv bs:=
 ⟨(hb.block b8 (lt_of_block h.c8)).trans h.c8,h.sat.below hb,(hb.block gr (lt_of_block h.zr)).trans h.zr,Below.more h.bel hb h.bel.size,h.hi⟩
theorem LdP.only {w W W':World} {gr b8 gu bu k:Nat} {lv:Nat→Nat} {bs:List Nat} (h:LdP w W gr b8 gu bu lv bs) (hb:Only k W W') (hk:w.heap.size≤k) (hn:b8≠k∧gu≠k∧bu≠k∧gr≠k):LdP w W' gr b8 gu bu lv bs:=
 ⟨(hb.block b8 (lt_of_block h.c8) hn.1).trans h.c8,h.sat.only hb hn.2.1 hn.2.2.1,(hb.block gr (lt_of_block h.zr) hn.2.2.2).trans h.zr,hb.below h.bel h.bel.size hk,h.hi⟩
theorem LdP.lts {w W:World} {gr b8 gu bu:Nat} {lv:Nat→Nat} {bs:List Nat} (h:LdP w W gr b8 gu bu lv bs):b8<W.heap.size∧gu<W.heap.size∧bu<W.heap.size∧gr<W.heap.size:=⟨lt_of_block h.c8,h.sat.glt,h.sat.blt,lt_of_block h.zr⟩
theorem LdP.c {w W:World} {gr b8 gu bu:Nat} {lv:Nat→Nat} {bs:List Nat} (h:LdP w W gr b8 gu bu lv bs):W.cell? ⟨b8,0,none⟩=some (.int .i64 (lv 0:Nat))∧W.cell? ⟨b8,1,none⟩=some (.int .i64 (lv 1:Nat))∧W.cell? ⟨b8,2,none⟩=some (.int .i64 (lv 2:Nat))∧W.cell? ⟨b8,3,none⟩=some (.int .i64 (lv 3:Nat))∧W.cell? ⟨b8,4,none⟩=some (.pointer (some ⟨gu,0,none⟩)):=
 ⟨by rw [cell_of_row _ _ _ _ _ _ h.c8];rfl,by rw [cell_of_row _ _ _ _ _ _ h.c8];rfl,by rw [cell_of_row _ _ _ _ _ _ h.c8];rfl,by rw [cell_of_row _ _ _ _ _ _ h.c8];rfl,by rw [cell_of_row _ _ _ _ _ _ h.c8];rfl⟩
structure Ten (u:World) (g:Nat):Prop where
 row:u.heap[g]?=some (.cells zeroSt 98 (0,0))
theorem Ten.cells {u:World} {g:Nat} (h:Ten u g):(u.cell? ⟨g,0,none⟩=some (.int .i64 0)∧u.cell? ⟨g,1,none⟩=some (.int .i64 0)∧u.cell? ⟨g,2,none⟩=some (.int .i64 0)∧u.cell? ⟨g,3,none⟩=some (.int .i64 0)∧u.cell? ⟨g,4,none⟩=some (.int .i64 0)∧u.cell? ⟨g,5,none⟩=some (.int .i64 0)∧u.cell? ⟨g,6,none⟩=some (.int .i64 0)∧u.cell? ⟨g,7,none⟩=some (.int .i64 0)∧u.cell? ⟨g,8,none⟩=some (.pointer none)∧u.cell? ⟨g,9,none⟩=some (.pointer none))∧∀i,u.frozen? ⟨g,i,none⟩=false:=by
 refine⟨⟨?_,?_,?_,?_,?_,?_,?_,?_,?_,?_⟩,fun i=>frozen_of_row _ _ i _ _ h.row⟩ <;> (rw [cell_of_row _ _ _ _ _ _ h.row];rfl)
theorem Ten.new (u:World):Ten (u.alloc (.cells #[.int .i64 0,.int .i64 0,.int .i64 0,.int .i64 0,.int .i64 0,.int .i64 0,.int .i64 0,.int .i64 0,.pointer none,.pointer none] 98)) u.heap.size:=⟨heap_alloc_new u _⟩
theorem Ten.chain {u:World} {g:Nat} (h:Ten u g) (v0 v1 v2 v3 v4 v5 v6 v7 v8 v9:Value) :
  ((((((((((u.setCell ⟨g,0,none⟩ v0).setCell ⟨g,1,none⟩ v1).setCell ⟨g,2,none⟩ v2).setCell ⟨g,3,none⟩ v3).setCell ⟨g,4,none⟩ v4).setCell ⟨g,5,none⟩ v5).setCell ⟨g,6,none⟩ v6).setCell ⟨g,7,none⟩ v7).setCell ⟨g,8,none⟩ v8).setCell ⟨g,9,none⟩ v9).heap[g]?=some (.cells #[v0,v1,v2,v3,v4,v5,v6,v7,v8,v9] 98 (0,0)):=by
 have h0:=heap_setCell_same _ g 0 _ 98 v0 h.row
 have h1:=heap_setCell_same _ g 1 _ 98 v1 h0
 have h2:=heap_setCell_same _ g 2 _ 98 v2 h1
 have h3:=heap_setCell_same _ g 3 _ 98 v3 h2
 have h4:=heap_setCell_same _ g 4 _ 98 v4 h3
 have h5:=heap_setCell_same _ g 5 _ 98 v5 h4
 have h6:=heap_setCell_same _ g 6 _ 98 v6 h5
 have h7:=heap_setCell_same _ g 7 _ 98 v7 h6
 have h8:=heap_setCell_same _ g 8 _ 98 v8 h7
 have h9:=heap_setCell_same _ g 9 _ 98 v9 h8
 rw [h9]
 simp
theorem Ten.read {u:World} {g b i:Nat} (h:b≠g) (v0 v1 v2 v3 v4 v5 v6 v7 v8 v9:Value) :
  ((((((((((u.setCell ⟨g,0,none⟩ v0).setCell ⟨g,1,none⟩ v1).setCell ⟨g,2,none⟩ v2).setCell ⟨g,3,none⟩ v3).setCell ⟨g,4,none⟩ v4).setCell ⟨g,5,none⟩ v5).setCell ⟨g,6,none⟩ v6).setCell ⟨g,7,none⟩ v7).setCell ⟨g,8,none⟩ v8).setCell ⟨g,9,none⟩ v9).cell? ⟨b,i,none⟩=u.cell? ⟨b,i,none⟩:=by
 have h2:g≠b:=Ne.symm h
 rw [World.cell?_setCell_far _ _ _ _ h2,World.cell?_setCell_far _ _ _ _ h2,World.cell?_setCell_far _ _ _ _ h2,World.cell?_setCell_far _ _ _ _ h2,World.cell?_setCell_far _ _ _ _ h2,World.cell?_setCell_far _ _ _ _ h2,World.cell?_setCell_far _ _ _ _ h2,World.cell?_setCell_far _ _ _ _ h2,World.cell?_setCell_far _ _ _ _ h2,World.cell?_setCell_far _ _ _ _ h2]
theorem Ten.only {u:World} {g:Nat} (v0 v1 v2 v3 v4 v5 v6 v7 v8 v9:Value) :
  Only g u ((((((((((u.setCell ⟨g,0,none⟩ v0).setCell ⟨g,1,none⟩ v1).setCell ⟨g,2,none⟩ v2).setCell ⟨g,3,none⟩ v3).setCell ⟨g,4,none⟩ v4).setCell ⟨g,5,none⟩ v5).setCell ⟨g,6,none⟩ v6).setCell ⟨g,7,none⟩ v7).setCell ⟨g,8,none⟩ v8).setCell ⟨g,9,none⟩ v9):=
 (((((((((Only.setCell g 0 v0 _).trans (Only.setCell g 1 v1 _)).trans (Only.setCell g 2 v2 _)).trans (Only.setCell g 3 v3 _)).trans (Only.setCell g 4 v4 _)).trans (Only.setCell g 5 v5 _)).trans (Only.setCell g 6 v6 _)).trans (Only.setCell g 7 v7 _)).trans (Only.setCell g 8 v8 _)).trans (Only.setCell g 9 v9 _)
theorem Stt.chain {W u:World} {g pt:Nat} {r:Rt} {lv T:Nat→Nat} (h:Ten u g) (hT:Tb.Tab u pt T) (hn:pt≠g) (hB:Below W.heap.size W u) (hg:W.heap.size≤g) (hp:W.heap.size≤pt) :
  Hid (Stt ((((((((((u.setCell ⟨g,0,none⟩ (.int .i64 r.ep)).setCell ⟨g,1,none⟩ (.int .i64 r.pg)).setCell ⟨g,2,none⟩ (.int .i64 r.dr)).setCell ⟨g,3,none⟩ (.int .i64 r.wd)).setCell ⟨g,4,none⟩ (.int .i64 (lv 0:Nat))).setCell ⟨g,5,none⟩ (.int .i64 (lv 1:Nat))).setCell ⟨g,6,none⟩ (.int .i64 (lv 2:Nat))).setCell ⟨g,7,none⟩ (.int .i64 (lv 3:Nat))).setCell ⟨g,8,none⟩ (.pointer (some ⟨pt,0,none⟩))).setCell ⟨g,9,none⟩ (.pointer none)) g pt none r lv T∧W.heap.size≤g∧W.heap.size≤pt ∧
   Below W.heap.size W ((((((((((u.setCell ⟨g,0,none⟩ (.int .i64 r.ep)).setCell ⟨g,1,none⟩ (.int .i64 r.pg)).setCell ⟨g,2,none⟩ (.int .i64 r.dr)).setCell ⟨g,3,none⟩ (.int .i64 r.wd)).setCell ⟨g,4,none⟩ (.int .i64 (lv 0:Nat))).setCell ⟨g,5,none⟩ (.int .i64 (lv 1:Nat))).setCell ⟨g,6,none⟩ (.int .i64 (lv 2:Nat))).setCell ⟨g,7,none⟩ (.int .i64 (lv 3:Nat))).setCell ⟨g,8,none⟩ (.pointer (some ⟨pt,0,none⟩))).setCell ⟨g,9,none⟩ (.pointer none))):=
 Lib.hid ⟨⟨h.chain _ _ _ _ _ _ _ _ _ _,hT.only (Ten.only ..) hn⟩,hg,hp,(Ten.only ..).below hB hB.size hg⟩
theorem Stt.fresh {W u:World} {r:Rt} {lv T:Nat→Nat} (hT:Tb.Tab u W.heap.size T) (hB:Below W.heap.size W u) :
  Hid (Stt (u.alloc (.cells #[.int .i64 r.ep,.int .i64 r.pg,.int .i64 r.dr,.int .i64 r.wd,.int .i64 (lv 0:Nat),.int .i64 (lv 1:Nat),.int .i64 (lv 2:Nat),.int .i64 (lv 3:Nat),.pointer (some ⟨W.heap.size,0,none⟩),.pointer none] 98)) u.heap.size W.heap.size none r lv T∧W.heap.size≤u.heap.size∧W.heap.size≤W.heap.size ∧
   Below W.heap.size W (u.alloc (.cells #[.int .i64 r.ep,.int .i64 r.pg,.int .i64 r.dr,.int .i64 r.wd,.int .i64 (lv 0:Nat),.int .i64 (lv 1:Nat),.int .i64 (lv 2:Nat),.int .i64 (lv 3:Nat),.pointer (some ⟨W.heap.size,0,none⟩),.pointer none] 98))):=
 Lib.hid ⟨⟨heap_alloc_new u _,hT.below (alloc_below u _)⟩,hB.size,Nat.le_refl _,hB.alloc hB.size _⟩
section
variable {w:World} {d:Nat} {F:List Nat} {m:Dsk} (r:Rt)
set_option maxHeartbeats 12800000 in
theorem load_sp (hD:Dk w d F m) (hup:m.down=false) (hl:m.out.length≤2048) :
  Calls Tryz.prog 91 #[.pointer (some ⟨d,0,none⟩),r.val] w fun e w'=>LoadR w w' m r e∧Below w.heap.size w w':=by
 have hR0:=RtAt.new w r 93
 have hb0:=alloc_below w (.cells #[.int .i64 r.ep,.int .i64 r.pg,.int .i64 r.dr,.int .i64 r.wd] 93)
 have hb1:=alloc_below (w.alloc (.cells #[.int .i64 r.ep,.int .i64 r.pg,.int .i64 r.dr,.int .i64 r.wd] 93)) (.cells #[.int .i64 0,.int .i64 0,.int .i64 0,.int .i64 0,.int .i64 0,.int .i64 0,.int .i64 0,.int .i64 0,.pointer none,.pointer none] 98)
 have HR1:=Lib.hid (hR0.below hb1)
 have HB1:=Lib.hid (Below.more hb0 hb1 hb0.size)
 have HD1:=Lib.hid (hD.below HB1.out)
 have HZ1:Hid (((w.alloc (.cells #[.int .i64 r.ep,.int .i64 r.pg,.int .i64 r.dr,.int .i64 r.wd] 93)).alloc (.cells #[.int .i64 0,.int .i64 0,.int .i64 0,.int .i64 0,.int .i64 0,.int .i64 0,.int .i64 0,.int .i64 0,.pointer none,.pointer none] 98)).heap[w.heap.size+1]?=some (.cells #[.int .i64 0,.int .i64 0,.int .i64 0,.int .i64 0,.int .i64 0,.int .i64 0,.int .i64 0,.int .i64 0,.pointer none,.pointer none] 98 (0,0))):=Lib.hid (by
  have:=heap_alloc_new (w.alloc (.cells #[.int .i64 r.ep,.int .i64 r.pg,.int .i64 r.dr,.int .i64 r.wd] 93)) (.cells #[.int .i64 0,.int .i64 0,.int .i64 0,.int .i64 0,.int .i64 0,.int .i64 0,.int .i64 0,.int .i64 0,.pointer none,.pointer none] 98)
  rwa [show (w.alloc (.cells #[.int .i64 r.ep,.int .i64 r.pg,.int .i64 r.dr,.int .i64 r.wd] 93)).heap.size=w.heap.size+1 by simp] at this)
 have HD0:=Lib.hid hD
 clear hR0 hb0 hb1 hD
 unfold Rt.val
 go_enter Tryz.func91,Tryz.ntmps91
 go_upto_region 1 with fail
 obtain⟨gr,hgr⟩:∃gr,w.heap.size+1=gr:=⟨_,rfl⟩
 have HGR:=Lib.hid hgr
 obtain⟨br,hbr⟩:∃br,w.heap.size=br:=⟨_,rfl⟩
 have HBR:=Lib.hid hbr
 generalize ((w.alloc (.cells #[.int .i64 r.ep,.int .i64 r.pg,.int .i64 r.dr,.int .i64 r.wd] 93)).alloc (.cells #[.int .i64 0,.int .i64 0,.int .i64 0,.int .i64 0,.int .i64 0,.int .i64 0,.int .i64 0,.int .i64 0,.pointer none,.pointer none] 98))=w1 at *
 rw [hgr] at HZ1 ⊢
 rw [hbr] at HR1 ⊢
 clear hgr hbr
 have l0:∀s:In w1,s.1.cell? ⟨br,0,none⟩=some (.int .i64 r.ep):=fun s=>(HR1.out.below s.2).c0
 have l1:∀s:In w1,s.1.cell? ⟨br,1,none⟩=some (.int .i64 r.pg):=fun s=>(HR1.out.below s.2).c1
 have l2:∀s:In w1,s.1.cell? ⟨br,2,none⟩=some (.int .i64 r.dr):=fun s=>(HR1.out.below s.2).c2
 have l3:∀s:In w1,s.1.cell? ⟨br,3,none⟩=some (.int .i64 r.wd):=fun s=>(HR1.out.below s.2).c3
 have HM:Hid (∀s:In w1,Calls Tryz.prog 87 #[.agg #[.int .i64 r.ep,.int .i64 r.pg,.int .i64 r.dr,.int .i64 r.wd]] s.1 fun e w'=>e = .returned (.bool (may r))∧Below s.1.heap.size s.1 w'):=Lib.hid fun s=>may_any r s.1
 have HPG:Hid (∀s:In w1,Calls Tryz.prog 74 #[.pointer (some ⟨d,0,none⟩)] s.1 fun e w'=>e = .returned (.int .i64 (pgOf m:Int))∧s.1=w'):=Lib.hid fun s=>pagesOf_any (HD1.out.below s.2) hl
 have hne:=In.some w1
 by_cases hmy:may r=true
 ·rw [hmy] at HM
  by_cases hpg:(pgOf m:Int)<r.pg
  ·have hd1:decide (r.pg > (pgOf m:Int))=true:=decide_eq_true hpg
   have hd2:decide ((pgOf m:Int)<r.pg)=true:=decide_eq_true hpg
   have HE:Hid (loadEr m r=13):=Lib.hid (by unfold loadEr;rw [if_pos (.inr hpg)])
   clear hpg
   refine region_in w1 (by kernel_rfl) (by kernel_rfl) (Below.refl _ _) ?_
   repeat (go_big_quiet_step ((first | (go_at_call 87;exact Calls.quiet_in (HM.out _)) | (go_at_call 74;exact Calls.quiet_in_same (HPG.out _)))))
   refine wpQuiet_nil ?_
   intro w12 hw'
   have hb12:Below w1.heap.size w1 w12:=by
    obtain⟨⟨wz,hbz⟩,hw''⟩:=hw'
    subst hw''
    exact hbz
   clear hw' l0 l1 l2 l3 HM HPG hne
   have HZ2:=Lib.hid ((hb12.block gr (lt_of_block HZ1.out)).trans HZ1.out)
   go_wp2_with (refine wpList_store_row rfl 98 (.tmp 4) (.tmp 23) rfl gr _ rfl rfl 98 _ HZ2.out size98 rfl zeroSt_one ?_)
   exact bodyPost_ret (Tb.results_row_tmp rfl _ _ gr 98 _ (0,0) _ rfl (setRow_heap w12 gr _ _ _ _ HZ2.out) Tryz.underlying98 rfl size98) rfl ⟨.inl ⟨by rw [HE.out];decide,by rw [HE.out];rfl⟩,below_row (Below.more HB1.out hb12 HB1.out.size) (by have:=HGR.out;omega) _⟩
  ·have hd1:decide (r.pg > (pgOf m:Int))=false:=decide_eq_false hpg
   have hd2:decide ((pgOf m:Int)<r.pg)=false:=decide_eq_false hpg
   have HMS:Hid (Mays r):=Lib.hid (may_yes hmy)
   obtain⟨dr,hdr⟩:∃dr:Nat,r.dr=(dr:Int):=⟨r.dr.toNat,by have:=HMS.out.d0;omega⟩
   have hdr4:4*dr+4≤m.out.length:=by
                         have:=HMS.out.d1;have:pgOf m*4≤m.out.length:=by unfold pgOf;omega
                         omega
   have HRP:Hid (∀w2,Below w1.heap.size w1 w2→Calls Tryz.prog 78 #[.pointer (some ⟨d,0,none⟩),.int .i64 (dr:Int)] w2 fun e w'=>e = .returned (.tuple #[.string (strB (dirBs m r)),.int .i64 0])∧w2=w'):=Lib.hid fun w2 hb=>by
    unfold dirBs
    rw [hdr,Int.toNat_natCast]
    exact readPage_up (HD1.out.below hb) dr hup hdr4 hl
   have HBS:Hid ((dirBs m r).length=512∧∀x∈dirBs m r,x<256):=Lib.hid (by
    unfold dirBs
    rw [hdr,Int.toNat_natCast]
    exact pageB_ok HD1.out.ok dr hdr4)
   have HPN:Hid (¬ (may r=false∨(pgOf m:Int)<r.pg)):=Lib.hid (by rintro (h | h);rw [hmy] at h;cases h;exact hpg h)
   have HDR:=Lib.hid hdr
   have HPG2:=Lib.hid hpg
   clear hdr hpg hdr4 hmy
   refine region_in w1 (by kernel_rfl) (by kernel_rfl) (Below.refl _ _) ?_
   repeat (go_big_quiet_step ((first | (go_at_call 87;exact Calls.quiet_in (HM.out _)) | (go_at_call 74;exact Calls.quiet_in_same (HPG.out _)))))
   refine wpQuiet_nil ?_
   intro w12 hw'
   have hb12:Below w1.heap.size w1 w12:=by
    obtain⟨⟨wz,hbz⟩,hw''⟩:=hw'
    subst hw''
    exact hbz
   have HR2:=Lib.hid (HR1.out.below hb12)
   have HB2:=Lib.hid hb12
   have HRP2:=Lib.hid (HRP.out w12 hb12)
   have c2:=HR2.out.c2
   rw [HDR.out] at c2
   clear hw' l0 l1 l2 l3 HM HPG hne HRP hb12 hd1 hd2
   obtain⟨bs,hbs⟩:∃bs,dirBs m r=bs:=⟨_,rfl⟩
   rw [hbs] at HRP2 HBS
   have HBSE:=Lib.hid hbs
   obtain⟨cap,w13,hrun,hb13,hBy,hc1,hc2⟩:=conv_bytes w12 bs HBS.out.2 (by rw [HBS.out.1];omega)
   rw [HBS.out.1] at hrun hBy hc1
   have HB13:=Lib.hid (Below.more HB2.out hb13 HB2.out.size)
   have HDEC:=Lib.hid (Tb.dec_any (some ⟨w12.heap.size,0,none⟩) 512 cap bs w13 hBy hc1 hc2)
   have HE5:Hid (∀u:World,(u.alloc (.cells #[.int .i64 0,.int .i64 0,.int .i64 0,.int .i64 0,.pointer none] 199)).cell? ⟨u.heap.size,0,none⟩=some (.int .i64 0)∧(u.alloc (.cells #[.int .i64 0,.int .i64 0,.int .i64 0,.int .i64 0,.pointer none] 199)).cell? ⟨u.heap.size,1,none⟩=some (.int .i64 0)∧(u.alloc (.cells #[.int .i64 0,.int .i64 0,.int .i64 0,.int .i64 0,.pointer none] 199)).cell? ⟨u.heap.size,2,none⟩=some (.int .i64 0) ∧
     (u.alloc (.cells #[.int .i64 0,.int .i64 0,.int .i64 0,.int .i64 0,.pointer none] 199)).cell? ⟨u.heap.size,3,none⟩=some (.int .i64 0)∧(u.alloc (.cells #[.int .i64 0,.int .i64 0,.int .i64 0,.int .i64 0,.pointer none] 199)).cell? ⟨u.heap.size,4,none⟩=some (.pointer none)∧∀i,(u.alloc (.cells #[.int .i64 0,.int .i64 0,.int .i64 0,.int .i64 0,.pointer none] 199)).frozen? ⟨u.heap.size,i,none⟩=false):=Lib.hid fun u=>
    ⟨World.cell?_alloc_new u _ _ 0,World.cell?_alloc_new u _ _ 1,World.cell?_alloc_new u _ _ 2,World.cell?_alloc_new u _ _ 3,World.cell?_alloc_new u _ _ 4,fun i=>frozen_of_row _ _ i _ _ (heap_alloc_new u _)⟩
   have HZK:Hid (∀w14,Below w13.heap.size w13 w14→(w14.alloc (.cells #[.int .i64 0,.int .i64 0,.int .i64 0,.int .i64 0,.pointer none] 199)).heap[gr]?=some (.cells zeroSt 98 (0,0))):=Lib.hid fun w14 hb=>by
    have h1:=lt_of_block HZ1.out
    have h2:=HB13.out.size
    have h3:=hb.size
    exact((alloc_below w14 _).block gr (by omega)).trans ((hb.block gr (by omega)).trans ((HB13.out.block gr h1).trans HZ1.out))
   clear hbs hb13 hBy hc1 hc2
   obtain⟨SB,hSB⟩:∃SB,strB bs=SB:=⟨_,rfl⟩
   rw [hSB] at HRP2 hrun
   clear hSB
   by_cases hde:Tb.dirE 512 bs=0
   ·obtain⟨lv,hlv⟩:∃lv,Tb.valB bs=lv:=⟨_,rfl⟩
    have HLVE:=Lib.hid hlv
    have HLV5:Hid (∀i,i<4→lv i<512):=Lib.hid fun i hi=>by
     have h1:=hde
     unfold Tb.dirE at h1
     split at h1
     ·rename_i h2;exact absurd h1 h2
     ·split at h1
      ·rename_i h2
       simp only [Bool.and_eq_true] at h2
       have h3:=h2.1
       unfold Tb.okV at h3
       have h4:=of_decide_eq_true h3 i hi
       rw [hlv] at h4
       unfold Tb.pgN at h4
       simp at h4
       omega
      ·cases h1
    have HDEC2:Hid (Calls Tryz.prog 148 #[.slice (some ⟨w12.heap.size,0,none⟩) 512 cap] w13 fun e w'=>(∃gu bu,e = .returned (.tuple #[.agg #[.int .i64 ((lv 0:Nat):Int),.int .i64 ((lv 1:Nat):Int),.int .i64 ((lv 2:Nat):Int),.int .i64 ((lv 3:Nat):Int),.pointer (some ⟨gu,0,none⟩)],.int .i64 0])∧Bi.Sat w' gu bu 512 (Bi.trs (Tb.dsB bs)))∧Below w13.heap.size w13 w'):=Lib.hid (HDEC.out.mono fun e w' hh=>⟨hh.1.elim (fun k=>by
     obtain⟨_,g,b,he,hs⟩:=k
     rw [hlv] at he
     exact⟨g,b,he,hs⟩) (fun k=>absurd hde k.1),hh.2⟩)
    have HDE:=Lib.hid hde
    clear hde HDEC hlv
    go_upto_region 9 with (first
     | (go_at_call 78;refine HRP2.out.mono ?_;rintro e w7 ⟨rfl,rfl⟩)
     | (go_at_call 148;refine HDEC2.out.mono ?_;rintro e w14 ⟨⟨gu,bu,rfl,hS14⟩,hb14⟩;obtain⟨e0,e1,e2,e3,e4,ef⟩:=HE5.out w14))
    have hb15:=Below.more hb14 (alloc_below w14 (.cells #[.int .i64 (lv 0:Nat),.int .i64 (lv 1:Nat),.int .i64 (lv 2:Nat),.int .i64 (lv 3:Nat),.pointer (some ⟨gu,0,none⟩)] 199)) hb14.size
    have HR3:=Lib.hid ((HR1.out.below HB13.out).below hb15)
    have HP:Hid (LdP w (w14.alloc (.cells #[.int .i64 (lv 0:Nat),.int .i64 (lv 1:Nat),.int .i64 (lv 2:Nat),.int .i64 (lv 3:Nat),.pointer (some ⟨gu,0,none⟩)] 199)) gr w14.heap.size gu bu lv bs):=Lib.hid
     ⟨heap_alloc_new w14 _,hS14.below (alloc_below w14 _),((hb15.block gr (Nat.lt_of_lt_of_le (lt_of_block HZ1.out) HB13.out.size)).trans (HB13.out.block gr (lt_of_block HZ1.out))).trans HZ1.out,Below.more (Below.more HB1.out HB13.out HB1.out.size) hb15 (Nat.le_trans HB1.out.size HB13.out.size),by have:=HGR.out;omega⟩
    have HLS:Hid ((w14.alloc (.cells #[.int .i64 (lv 0:Nat),.int .i64 (lv 1:Nat),.int .i64 (lv 2:Nat),.int .i64 (lv 3:Nat),.pointer (some ⟨gu,0,none⟩)] 199)).heap.size=w14.heap.size+1):=Lib.hid (by simp)
    clear hb15 hb14 hS14 e0 e1 e2 e3 e4 ef c2 hrun HE5 HZK HDEC2 HRP2 HR2 HZ1 HR1 HB1 HB2 HB13
    generalize (w14.alloc (.cells #[.int .i64 (lv 0:Nat),.int .i64 (lv 1:Nat),.int .i64 (lv 2:Nat),.int .i64 (lv 3:Nat),.pointer (some ⟨gu,0,none⟩)] 199))=W at *
    generalize w14.heap.size=b8 at *
    obtain⟨q0,q1,q2,q3,q4⟩:=HP.out.c
    have p0:=HR3.out.c0
    have p1:=HR3.out.c1
    have p2:=HR3.out.c2
    have p3:=HR3.out.c3
    have HQR:Hid (∀u,Below W.heap.size W u→(u.cell? ⟨br,0,none⟩=some (.int .i64 r.ep)∧u.cell? ⟨br,1,none⟩=some (.int .i64 r.pg)∧u.cell? ⟨br,2,none⟩=some (.int .i64 r.dr)∧u.cell? ⟨br,3,none⟩=some (.int .i64 r.wd))∧u.cell? ⟨b8,0,none⟩=some (.int .i64 (lv 0:Nat))∧u.cell? ⟨b8,1,none⟩=some (.int .i64 (lv 1:Nat))∧u.cell? ⟨b8,2,none⟩=some (.int .i64 (lv 2:Nat))∧u.cell? ⟨b8,3,none⟩=some (.int .i64 (lv 3:Nat))∧u.cell? ⟨b8,4,none⟩=some (.pointer (some ⟨gu,0,none⟩))):=Lib.hid fun u hu=>
     have a:=HR3.out.below hu
     ⟨⟨a.c0,a.c1,a.c2,a.c3⟩,(HP.out.below hu).c⟩
    go_cut [9] (fun v wx=>∃gs pt,v = .pointer (some ⟨gs,0,none⟩)∧Hid (Stt wx gs pt none r lv (fun _=>0)∧W.heap.size≤gs∧W.heap.size≤pt∧Below W.heap.size W wx))
    case first=>
     have HT9:=Lib.hid (fun u=>Ten.new u)
     obtain⟨⟨o0,o1,o2,o3⟩,oo0,oo1,oo2,oo3,oo4⟩:=HQR.out (W.alloc (.cells #[.int .i64 0,.int .i64 0,.int .i64 0,.int .i64 0,.int .i64 0,.int .i64 0,.int .i64 0,.int .i64 0,.pointer none,.pointer none] 98)) ((Below.refl _ _).alloc (Nat.le_refl _) _)
     have n1:br≠W.heap.size:=Nat.ne_of_lt HR3.out.lt
     have n2:b8≠W.heap.size:=Nat.ne_of_lt HP.out.lts.1
     have HNN:Hid (∀u,Below W.heap.size W u→br≠u.heap.size∧b8≠u.heap.size):=Lib.hid fun u hu=>⟨by have:=hu.size;have:=HR3.out.lt;omega,by have:=hu.size;have:=HP.out.lts.1;omega⟩
     go_region_held3 (fun u=>u.cell? ⟨br,0,none⟩=some (.int .i64 r.ep)∧u.cell? ⟨br,1,none⟩=some (.int .i64 r.pg)∧u.cell? ⟨br,2,none⟩=some (.int .i64 r.dr)∧u.cell? ⟨br,3,none⟩=some (.int .i64 r.wd)∧u.cell? ⟨b8,0,none⟩=some (.int .i64 (lv 0:Nat))∧u.cell? ⟨b8,1,none⟩=some (.int .i64 (lv 1:Nat))∧u.cell? ⟨b8,2,none⟩=some (.int .i64 (lv 2:Nat))∧u.cell? ⟨b8,3,none⟩=some (.int .i64 (lv 3:Nat))) ((first
      | go_keep
      | exact⟨(Ten.read n1 ..).trans y0,(Ten.read n1 ..).trans y1,(Ten.read n1 ..).trans y2,(Ten.read n1 ..).trans y3,(Ten.read n2 ..).trans z0,(Ten.read n2 ..).trans z1,(Ten.read n2 ..).trans z2,(Ten.read n2 ..).trans z3⟩)) (first
      | (
        go_at_call 75;refine(Tb.new_any _).mono ?_;rintro e w15 ⟨rfl,hT15,hb15⟩
        first
         | (
          have hB:Below W.heap.size W w15:=(Below.refl _ _).drew.trans hb15
          obtain⟨m1,m2⟩:=HNN.out w15 hB
          obtain⟨⟨y0,y1,y2,y3⟩,z0,z1,z2,z3,z4⟩:=HQR.out w15 hB
          obtain⟨⟨yy0,yy1,yy2,yy3⟩,zz0,zz1,zz2,zz3,zz4⟩:=HQR.out (w15.alloc (.cells #[.int .i64 0,.int .i64 0,.int .i64 0,.int .i64 0,.int .i64 0,.int .i64 0,.int .i64 0,.int .i64 0,.pointer none,.pointer none] 98)) (hB.alloc hB.size _)
          obtain⟨⟨x0,x1,x2,x3,x4,x5,x6,x7,x8,x9⟩,xf⟩:=(HT9.out w15).cells)
         | (
          have hA:Below W.heap.size W (W.drew.alloc (.cells #[.int .i64 0,.int .i64 0,.int .i64 0,.int .i64 0,.int .i64 0,.int .i64 0,.int .i64 0,.int .i64 0,.pointer none,.pointer none] 98)):=(Below.refl _ _).drew.alloc (Nat.le_refl _) _
          have hB:Below W.heap.size W w15:=Below.more hA hb15 hA.size
          obtain⟨m1,m2⟩:=HNN.out w15 hB
          obtain⟨⟨y0,y1,y2,y3⟩,z0,z1,z2,z3,z4⟩:=HQR.out w15 hB
          have hT9:Ten w15 W.heap.size:=⟨(hb15.block _ (lt_of_block (HT9.out W.drew).row)).trans (HT9.out W.drew).row⟩
          obtain⟨⟨x0,x1,x2,x3,x4,x5,x6,x7,x8,x9⟩,xf⟩:=hT9.cells)))
     all_goals go_wp2_with fail
     all_goals go_meet
     ·exact⟨w15.heap.size,W.heap.size,rfl,Stt.fresh hT15 hB⟩
     ·exact⟨W.heap.size,W.heap.size+1,rfl,Stt.chain hT9 (by have h1:=hT15;rwa [show ∀o:Obj,(W.alloc o).drew.heap.size=W.heap.size+1 from fun o=>by simp [World.drew]] at h1) (by omega) hB (Nat.le_refl _) (by omega)⟩
    case rest=>
    obtain⟨gs,pt,rfl,HC⟩:=hcut
    have HN:Hid ((b8<W.heap.size∧gu<W.heap.size∧bu<W.heap.size∧gr<W.heap.size)∧W.heap.size≤gs∧W.heap.size≤pt∧gs≠pt∧w.heap.size≤W.heap.size):=Lib.hid ⟨HP.out.lts,HC.out.2.1,HC.out.2.2.1,fun e=>by
     have h1:=HC.out.1.box
     have h2:=HC.out.1.tab.row
     unfold Tb.IsT at h2
     rw [e,h2] at h1;simp at h1,HP.out.bel.size⟩
    have HP9:=Lib.hid (HP.out.below HC.out.2.2.2)
    have HS9:=Lib.hid HC.out.1
    have HPG3:Hid (r.pg*4≤(m.out.length:Int)):=Lib.hid (by
     have h1:=HPG2.out
     have h2:pgOf m*4≤m.out.length:=by unfold pgOf;omega
     omega)
    clear HC q0 q1 q2 q3 q4 p0 p1 p2 p3 HQR HP HR3 HLS
    go_wp2_with fail
    go_loopw [49] (fun iv wr=>∃i:Nat,i≤4∧iv = .int .i64 (i:Int)∧Hid (LdP w wr gr b8 gu bu lv bs∧Stt wr gs pt none r lv (lfM m r lv i).2∧(lfM m r lv i).1=0)) (fun iv _=>4 - (RowKit.intOf iv).toNat)
    case atStart=>exact⟨0,by omega,by go_num,Lib.hid ⟨HP9.out,HS9.out,rfl⟩⟩
    case round=>
     obtain⟨i,hi4,rfl,HR⟩:=hrel
     by_cases hlt:i<4
     ·have hd:decide ((i:Int)<4)=true:=decide_eq_true (by omega)
      have HLL:=Lib.hid (loadLeaf_any HR.out.2.1 (HD0.out.below HR.out.1.bel) hup hl HPG3.out i hlt (HLV5.out i hlt))
      have HSU:=Lib.hid (lfM_succ HR.out.2.2)
      have HI:=Lib.hid hlt
      have hz4:(i:Int)≤4:=by omega
      rw [←HSU.out] at HLL
      by_cases hz:(lfM m r lv (i+1)).1=0
      ·rw [hz] at HLL
       have HZ0:=Lib.hid hz
       clear hlt hi4 hz
       go_wp2_with (go_at_call 149;refine HLL.out.mono ?_;rintro e w5 ⟨rfl,hT5,hO5⟩)
       go_roundw
       case rel=>exact⟨i+1,by have:=HI.out;omega,by go_num,Lib.hid ⟨HR.out.1.only hO5 (by have:=HN.out;omega) (by have:=HN.out;omega),⟨(hO5.block gs HR.out.2.1.lt HN.out.2.2.2.1).trans HR.out.2.1.box,hT5⟩,HZ0.out⟩⟩
       case measure=>have:=HI.out;simp [RowKit.intOf];omega
      ·have HE:Hid (loadEr m r=(lfM m r lv (i+1)).1):=Lib.hid (by
        have h1:=lfM_stop hz (4 - (i+1))
        rw [show i+1+(4 - (i+1))=4 by omega] at h1
        unfold loadEr
        rw [if_neg HPN.out,HBSE.out,if_neg (by simpa using HDE.out),HLVE.out,h1,if_pos hz])
       have hnz:((lfM m r lv (i+1)).1 == 0)=false:=by simpa using hz
       have hnz2:((lfM m r lv (i+1)).1 != 0)=true:=by simpa using hz
       have HNZ:=Lib.hid hz
       clear hlt hi4 hz HSU
       obtain⟨E,hE⟩:∃E,(lfM m r lv (i+1)).1=E:=⟨_,rfl⟩
       rw [hE] at HLL HE hnz hnz2 HNZ
       clear hE
       go_wp2_with (first
        | (go_at_call 149;refine HLL.out.mono ?_;rintro e w5 ⟨rfl,hT5,hO5⟩;have HP5:=Lib.hid (HR.out.1.only hO5 (by have:=HN.out;omega) (by have:=HN.out;omega)))
        | (refine wpList_store_row rfl 98 (.tmp 4) (.tmp 57) rfl gr _ rfl rfl 98 _ HP5.out.zr size98 rfl zeroSt_one ?_))
       exact bodyPost_ret (Tb.results_row_tmp rfl _ _ gr 98 _ (0,0) _ rfl (setRow_heap _ gr _ _ _ _ HP5.out.zr) Tryz.underlying98 rfl size98) rfl ⟨.inl ⟨by rw [HE.out];exact HNZ.out,by rw [HE.out];rfl⟩,below_row HP5.out.bel HP5.out.hi _⟩
     ·have hd:decide ((i:Int)<4)=false:=decide_eq_false (by omega)
      have he4:i=4:=by omega
      rw [he4] at HR
      clear he4 hlt hi4
      have HT:=Lib.hid (lfM_load HPN.out HBSE.out HLVE.out HDE.out HR.out.2.2)
      have HSE:Hid ((loadSt m r).lv=lv∧(loadSt m r).tb=(lfM m r lv 4).2∧(loadSt m r).us=some (pgsM r lv (lfM m r lv 4).2).1):=Lib.hid (by unfold loadSt;rw [HBSE.out,HLVE.out];exact⟨rfl,rfl,rfl⟩)
      obtain⟨tb,htb⟩:∃tb,(lfM m r lv 4).2=tb:=⟨_,rfl⟩
      rw [htb] at HR HT HSE
      have HPS:=Lib.hid (pagesS_any HR.out.2.1)
      obtain⟨P1,hP1⟩:∃P1,(pgsM r lv tb).1=P1:=⟨_,rfl⟩
      rw [hP1] at HPS HT HSE
      clear htb hP1
      by_cases hok:(pgsM r lv tb).2=true
      ·rw [hok] at HPS HT
       have HT2:Hid (loadEr m r=if Bi.rowF P1 64≠Bi.rowF (Bi.trs (Tb.dsB bs)) 64 then 13 else 0):=Lib.hid (by rw [HT.out];simp)
       clear hok HT
       go_upto_region 19 with (first
        | (
          go_at_call 142;refine HPS.out.mono ?_;rintro e w6 ⟨⟨gu2,bu2,rfl,hg2,hb2,hS6⟩,hb6⟩
          have HP6:=Lib.hid (HR.out.1.below hb6)
          have hS:=HR.out.2.1.below hb6
          have c9:=hS.cell 9 _ rfl
          have f9:w6.frozen? ⟨gs,9,none⟩=false:=frozen_of_row _ _ 9 _ _ hS.box))
       have hO7:Only gs w6 (w6.setCell ⟨gs,9,none⟩ (.pointer (some ⟨gu2,0,none⟩))):=Only.setCell gs 9 _ w6
       have HP7:=Lib.hid (HP6.out.only hO7 (by have:=HN.out;omega) (by have:=HN.out;omega))
       have hgu2:gs<wr.heap.size:=HR.out.2.1.lt
       have HS7:Hid (Stt (w6.setCell ⟨gs,9,none⟩ (.pointer (some ⟨gu2,0,none⟩))) gs pt (some ⟨gu2,0,none⟩) r lv tb):=Lib.hid ⟨heap_setCell_same _ gs 9 _ 98 _ hS.box,hS.tab.only hO7 (by have:=HN.out;omega)⟩
       have HU7:=Lib.hid (hS6.only hO7 (by omega) (by omega))
       have HHI:Hid (w.heap.size≤gu2∧w.heap.size≤bu2∧gr≠gu2∧gr≠bu2):=Lib.hid (by
        have h1:=HR.out.1.bel.size
        have h2:=HR.out.1.lts
        omega)
       clear hO7 hgu2 hS c9 f9 hS6 hb6 hg2 hb2
       generalize w6.setCell ⟨gs,9,none⟩ (.pointer (some ⟨gu2,0,none⟩))=w7 at *
       have c9:=HS7.out.cell 9 _ rfl
       obtain⟨_,d1,_,_,_⟩:=HP7.out.c
       have HSM:=Lib.hid (Bi.same_any HU7.out HP7.out.sat)
       by_cases hrw:Bi.rowF P1 64=Bi.rowF (Bi.trs (Tb.dsB bs)) 64
       ·have HE:Hid (loadEr m r=0):=Lib.hid (by rw [HT2.out,if_neg (by simpa using hrw)])
        have HSM2:Hid (Calls Tryz.prog 150 #[.pointer (some ⟨gu2,0,none⟩),.pointer (some ⟨gu,0,none⟩)] w7 fun e w'=>e = .returned (.bool true)∧Below w7.heap.size w7 w'):=Lib.hid (by
         have h1:=HSM.out
         rwa [show decide (512=512∧Bi.rowF P1 (Bi.need 512)=Bi.rowF (Bi.trs (Tb.dsB bs)) (Bi.need 512))=true from decide_eq_true ⟨rfl,hrw⟩] at h1)
        clear hrw HSM
        go_wp2_with (first
         | (
           go_at_call 150;refine HSM2.out.mono ?_;rintro e w8 ⟨rfl,hb8⟩
           have HP8:=Lib.hid (HP7.out.below hb8)
           have HS8:=Lib.hid (HS7.out.below hb8)
           have HU8:=Lib.hid (HU7.out.below hb8)
           obtain⟨k0,k1,k2,k3,k4,k5,k6,k7,k8,k9⟩:=HS8.out.ten)
         | (refine wpList_store_row rfl 98 (.tmp 4) (.tmp 76) rfl gr _ rfl rfl 98 _ HP8.out.zr size98 rfl (stA_one r lv _ _) ?_))
        exact bodyPost_ret (Tb.results_row_tmp rfl _ _ gr 98 _ (0,0) _ rfl (setRow_heap _ gr _ _ _ _ HP8.out.zr) Tryz.underlying98 rfl size98) rfl ⟨.inr ⟨HE.out,pt,gu2,bu2,by rw [HSE.out.1];rfl,Nat.le_trans HN.out.2.2.2.2 HN.out.2.2.1,HHI.out.1,HHI.out.2.1,by
         rw [HSE.out.2.1];exact HS8.out.tab.same (setRow_other _ gr _ _ (by have:=HN.out;omega)),by
         rw [HSE.out.2.2];exact⟨gu2,bu2,rfl,HU8.out.same (setRow_other _ gr _ _ (by have:=HHI.out;omega)) (setRow_other _ gr _ _ (by have:=HHI.out;omega))⟩⟩,below_row HP8.out.bel HP8.out.hi _⟩
       ·have HE:Hid (loadEr m r=13):=Lib.hid (by rw [HT2.out,if_pos hrw])
        have HSM2:Hid (Calls Tryz.prog 150 #[.pointer (some ⟨gu2,0,none⟩),.pointer (some ⟨gu,0,none⟩)] w7 fun e w'=>e = .returned (.bool false)∧Below w7.heap.size w7 w'):=Lib.hid (by
         have h1:=HSM.out
         rwa [show decide (512=512∧Bi.rowF P1 (Bi.need 512)=Bi.rowF (Bi.trs (Tb.dsB bs)) (Bi.need 512))=false from decide_eq_false (fun h=>hrw h.2)] at h1)
        clear hrw HSM
        go_wp2_with (first
         | (
           go_at_call 150;refine HSM2.out.mono ?_;rintro e w8 ⟨rfl,hb8⟩
           have HP8:=Lib.hid (HP7.out.below hb8))
         | (refine wpList_store_row rfl 98 (.tmp 4) (.tmp 75) rfl gr _ rfl rfl 98 _ HP8.out.zr size98 rfl zeroSt_one ?_))
        exact bodyPost_ret (Tb.results_row_tmp rfl _ _ gr 98 _ (0,0) _ rfl (setRow_heap _ gr _ _ _ _ HP8.out.zr) Tryz.underlying98 rfl size98) rfl ⟨.inl ⟨by rw [HE.out];decide,by rw [HE.out];rfl⟩,below_row HP8.out.bel HP8.out.hi _⟩
      ·rw [Bool.not_eq_true] at hok
       rw [hok] at HPS HT
       have HE:Hid (loadEr m r=13):=Lib.hid (by rw [HT.out];simp)
       clear hok
       go_wp2_with (first
        | (
          go_at_call 142;refine HPS.out.mono ?_;rintro e w6 ⟨⟨gu2,bu2,rfl,hg2,hb2,hS6⟩,hb6⟩
          have HP6:=Lib.hid (HR.out.1.below hb6)
          have hS:=HR.out.2.1.below hb6
          have c9:=hS.cell 9 _ rfl
          have f9:w6.frozen? ⟨gs,9,none⟩=false:=frozen_of_row _ _ 9 _ _ hS.box
          have HP7:=Lib.hid (HP6.out.only (Only.setCell gs 9 (.pointer (some ⟨gu2,0,none⟩)) w6) (by have:=HN.out;omega) (by have:=HN.out;omega)))
        | (refine wpList_store_row rfl 98 (.tmp 4) (.tmp 75) rfl gr _ rfl rfl 98 _ HP7.out.zr size98 rfl zeroSt_one ?_))
       exact bodyPost_ret (Tb.results_row_tmp rfl _ _ gr 98 _ (0,0) _ rfl (setRow_heap _ gr _ _ _ _ HP7.out.zr) Tryz.underlying98 rfl size98) rfl ⟨.inl ⟨by rw [HE.out];decide,by rw [HE.out];rfl⟩,below_row HP7.out.bel HP7.out.hi _⟩
   ·have HE:Hid (loadEr m r=13):=Lib.hid (by unfold loadEr;rw [if_neg HPN.out,HBSE.out,if_pos hde])
    have hde1:(Tb.dirE 512 bs == 0)=false:=by simpa using hde
    have hde2:(Tb.dirE 512 bs != 0)=true:=by simpa using hde
    have HDEC2:Hid (Calls Tryz.prog 148 #[.slice (some ⟨w12.heap.size,0,none⟩) 512 cap] w13 fun e w'=>e = .returned (.tuple #[.agg #[.int .i64 0,.int .i64 0,.int .i64 0,.int .i64 0,.pointer none],.int .i64 (Tb.dirE 512 bs)])∧Below w13.heap.size w13 w'):=Lib.hid (HDEC.out.mono fun e w' hh=>⟨hh.1.elim (fun k=>absurd k.1 hde) (fun k=>k.2),hh.2⟩)
    clear hde HDEC
    generalize Tb.dirE 512 bs=DE at *
    go_wp2_with (first
     | (go_at_call 78;refine HRP2.out.mono ?_;rintro e w7 ⟨rfl,rfl⟩)
     | (go_at_call 148;refine HDEC2.out.mono ?_;rintro e w14 ⟨rfl,hb14⟩;obtain⟨e0,e1,e2,e3,e4,ef⟩:=HE5.out w14)
     | (refine wpList_store_row rfl 98 (.tmp 4) (.tmp 43) rfl gr _ rfl rfl 98 _ (HZK.out w14 hb14) size98 rfl zeroSt_one ?_))
    have hbF:Below w.heap.size w (w14.alloc (.cells #[.int .i64 0,.int .i64 0,.int .i64 0,.int .i64 0,.pointer none] 199)):=(Below.more (Below.more HB1.out HB13.out HB1.out.size) hb14 (Nat.le_trans HB1.out.size HB13.out.size)).alloc (Nat.le_trans HB1.out.size (Nat.le_trans HB13.out.size hb14.size)) _
    exact bodyPost_ret (Tb.results_row_tmp rfl _ _ gr 98 _ (0,0) _ rfl (setRow_heap _ gr _ _ _ _ (HZK.out w14 hb14)) Tryz.underlying98 rfl size98) rfl ⟨.inl ⟨by rw [HE.out];decide,by rw [HE.out];rfl⟩,below_row hbF (by have:=HGR.out;omega) _⟩
 ·have hmf:may r=false:=by simpa using hmy
  have HE:Hid (loadEr m r=13):=Lib.hid (by unfold loadEr;rw [if_pos (.inl hmf)])
  rw [hmf] at HM
  clear hmf hmy
  refine region_in w1 (by kernel_rfl) (by kernel_rfl) (Below.refl _ _) ?_
  repeat (go_big_quiet_step ((first | (go_at_call 87;exact Calls.quiet_in (HM.out _)))))
  refine wpQuiet_nil ?_
  intro w12 hw'
  have hb12:Below w1.heap.size w1 w12:=by
   obtain⟨⟨wz,hbz⟩,hw''⟩:=hw'
   subst hw''
   exact hbz
  clear hw' l0 l1 l2 l3 HM HPG hne
  have HZ2:=Lib.hid ((hb12.block gr (lt_of_block HZ1.out)).trans HZ1.out)
  go_wp2_with (refine wpList_store_row rfl 98 (.tmp 4) (.tmp 23) rfl gr _ rfl rfl 98 _ HZ2.out size98 rfl zeroSt_one ?_)
  exact bodyPost_ret (Tb.results_row_tmp rfl _ _ gr 98 _ (0,0) _ rfl (setRow_heap w12 gr _ _ _ _ HZ2.out) Tryz.underlying98 rfl size98) rfl ⟨.inl ⟨by rw [HE.out];decide,by rw [HE.out];rfl⟩,below_row (Below.more HB1.out hb12 HB1.out.size) (by have:=HGR.out;omega) _⟩
end
end
section
set_option maxRecDepth 20000
open Go.RowKit
def usedM (m:Dsk) (r:Rt):Option (Nat→Bool):=if loadEr m r=0 then (loadSt m r).us else none
structure LdS (w w':World) (m:Dsk) (r r':Rt) (lv:Nat→Nat) (p8 p9:Option Addr):Prop where
 used:Stp w' p9 (usedM m r)
 good:loadEr m r=0→r'=r∧lv=(loadSt m r).lv∧∃pt,p8=some ⟨pt,0,none⟩∧w.heap.size≤pt∧Tb.Tab w' pt (loadSt m r).tb
theorem LoadR.shape {w w':World} {m:Dsk} {r:Rt} {e:Ending} (h:LoadR w w' m r e) :
  ∃r' lv p8 p9,e = .returned (.tuple #[.agg (stA r' lv p8 p9),.int .i64 (loadEr m r)])∧LdS w w' m r r' lv p8 p9:=by
 rcases h with ⟨h0,he⟩ | ⟨h0,pt,gu,bu,he,h1,_,_,hT,hS⟩
 ·exact⟨⟨0,0,0,0⟩,fun _=>0,none,none,he,by unfold usedM;rw [if_neg h0];exact rfl,fun h=>absurd h h0⟩
 ·exact⟨r,_,_,_,by rw [h0];exact he,by unfold usedM;rw [if_pos h0];exact hS,fun _=>⟨rfl,rfl,pt,rfl,h1,hT⟩⟩
section
variable {w:World} {d:Nat} {F:List Nat} {m:Dsk} (r:Rt)
set_option maxHeartbeats 1600000 in
theorem usedBy_any (hD:Dk w d F m) (hup:m.down=false) (hl:m.out.length≤2048) :
  Calls Tryz.prog 73 #[.pointer (some ⟨d,0,none⟩),r.val] w fun e w'=>(∃p,e = .returned (.pointer p)∧Stp w' p (usedM m r))∧Below w.heap.size w w':=by
 have hb0:=alloc_below w (.cells #[.int .i64 r.ep,.int .i64 r.pg,.int .i64 r.dr,.int .i64 r.wd] 93)
 have HB0:=Lib.hid hb0
 have HL:=Lib.hid (load_sp r (hD.below hb0) hup hl)
 have HT:=Lib.hid (fun u=>(Ten.new u).cells)
 clear hb0 hD
 unfold Rt.val at HL ⊢
 go_enter Tryz.func73,Tryz.ntmps73
 go_wp2_with (go_at_call 91;refine HL.out.mono ?_;rintro e w7 ⟨hsh,hb7⟩;obtain⟨r',lv,p8,p9,rfl,hS⟩:=hsh.shape;obtain⟨⟨x0,x1,x2,x3,x4,x5,x6,x7,x8,x9⟩,xf⟩:=HT.out w7;unfold stA)
 go_ret
 refine⟨⟨p9,rfl,hS.used.below (alloc_below w7 _)⟩,?_⟩
 exact(Below.more HB0.out hb7 HB0.out.size).alloc (Nat.le_trans HB0.out.size hb7.size) _
end
section
variable {w:World} {d:Nat} {F:List Nat} {m:Dsk}
end
end
end Go.Proofs.YtmbecjlioogbhaaGreatDoor
