/- Texts TDec to PPut of this seat, laid into one. -/
import Derived.Test.YtmbecjlioogbhaaGreatDoorM04
import Derived.Test.YtmbecjlioogbhaaGreatDoorM05
import Derived.Test.YtmbecjlioogbhaaGreatDoorM09
set_option linter.unusedVariables false
set_option linter.unusedSimpArgs false
set_option linter.constructorNameAsVariable false
namespace Go.Proofs.YtmbecjlioogbhaaGreatDoor
section
set_option maxRecDepth 20000
namespace Tb
open Go.Proofs.YtmbecjlioogbhaaGreatDoor.Bi
open Go.RowKit
def dsB (bs:List Nat):List Nat:=(bs.drop 16).take 64
def dirE (n:Nat) (bs:List Nat):Int:=if wholeE n≠0 then wholeE n else if okV (valB bs) 4 && allZ (bs.drop 80) 432 then 0 else 4
theorem dsB_len {bs:List Nat} (h:bs.length=512):(dsB bs).length=64:=by unfold dsB;rw [List.length_take,List.length_drop];omega
theorem ofE_dir {bs:List Nat} (h:bs.length=512) (hd:∀x∈bs,x<256):ofE 512 (dsB bs)=0:=by
 have hl:=dsB_len h
 have hdd:∀x∈dsB bs,x<256:=fun x hx=>hd x (List.mem_of_mem_drop (List.mem_of_mem_take hx))
 have h1:rowF (cut 512 (trs (dsB bs))) 64=dsB bs:=by
  rw [rowF_congr (g:=trs (dsB bs)) (fun i hi=>by unfold cut;rw [decide_eq_true (by omega),Bool.true_and])]
  exact rowF_trs hl hdd
 unfold ofE
 rw [if_neg (not_not_intro ⟨by omega,by omega⟩),hl,if_neg (by decide),if_neg (by decide)]
 exact if_pos h1
theorem results_row_tmp {P:Program} {fn:Func} {p u:Tmp} {ty:TypeId} (h:fn.results=#[.cell p ty,.tmp u]) (tmps:Array Value) (w:World) (g:Nat) (t:TypeId) (cs:Array Value) (fr:Nat × Nat) (d:TypeDesc)
  (hp:tmps.getD p undef = .pointer (some ⟨g,0,none⟩)) (hg:w.heap[g]?=some (.cells cs t fr))
  (hu:P.underlying ty=some d) (hd:(match d with | .struct _ | .array _ _=>true | _=>false)=true) (hi:(P.info? ty).map (·.size)=some cs.size) :
  (results fn tmps).run P w = .ok (.tuple #[.agg cs,tmps.getD u undef]) w:=by
 rw [results_cell_tmp h,hp]
 simp [asAddr,run_loadVar_row w g t ty cs fr d hg hu hd hi]
theorem results_dec {P:Program} {fn:Func} {p u:Tmp} {ty:TypeId} (h:fn.results=#[.cell p ty,.tmp u]) (tmps:Array Value) (w:World) (g:Nat) (t:TypeId) (cs:Array Value) (fr:Nat × Nat) (d:TypeDesc)
  (hp:tmps.getD p undef = .pointer (some ⟨g,0,none⟩)) (hg:w.heap[g]?=some (.cells cs t fr))
  (hu:P.underlying ty=some d) (hd:(match d with | .struct _ | .array _ _=>true | _=>false)=true) (hi:(P.info? ty).map (·.size)=some cs.size) :
  (results fn tmps).run P w = .ok (.tuple #[.agg cs,tmps.getD u undef]) w:=results_row_tmp h tmps w g t cs fr d hp hg hu hd hi
theorem size199:(Tryz.prog.info? 199).map (·.size)=some 5:=by kernel_rfl
def DecR (w':World) (n:Nat) (bs:List Nat) (e:Ending):Prop:=
 (dirE n bs=0∧∃g b,e = .returned (.tuple #[.agg #[.int .i64 ((valB bs 0:Nat):Int),.int .i64 ((valB bs 1:Nat):Int),.int .i64 ((valB bs 2:Nat):Int),.int .i64 ((valB bs 3:Nat):Int),.pointer (some ⟨g,0,none⟩)],.int .i64 0])∧Sat w' g b 512 (trs (dsB bs))) ∨
 (dirE n bs≠0∧e = .returned (.tuple #[.agg #[.int .i64 0,.int .i64 0,.int .i64 0,.int .i64 0,.pointer none],.int .i64 (dirE n bs)]))
theorem set5 {w:World} {g t:Nat} {a b c d e:Value} (v0 v1 v2 v3 v4:Value) (h:w.heap[g]?=some (.cells #[a,b,c,d,e] t (0,0))) :
  (((((w.setCell ⟨g,0,none⟩ v0).setCell ⟨g,1,none⟩ v1).setCell ⟨g,2,none⟩ v2).setCell ⟨g,3,none⟩ v3).setCell ⟨g,4,none⟩ v4).heap[g]?=some (.cells #[v0,v1,v2,v3,v4] t (0,0)):=by
 have h0:=heap_setCell_same w g 0 _ _ v0 h
 have h1:=heap_setCell_same _ g 1 _ _ v1 h0
 have h2:=heap_setCell_same _ g 2 _ _ v2 h1
 have h3:=heap_setCell_same _ g 3 _ _ v3 h2
 have h4:=heap_setCell_same _ g 4 _ _ v4 h3
 exact h4
theorem set4 {w:World} {g t:Nat} {a b c d e:Value} (v0 v1 v2 v3:Value) (h:w.heap[g]?=some (.cells #[a,b,c,d,e] t (0,0))) :
  (w.setCells g 0 [v0,v1,v2,v3]).heap[g]?=some (.cells #[v0,v1,v2,v3,e] t (0,0)):=by
 have h0:=heap_setCell_same w g 0 _ _ v0 h
 have h1:=heap_setCell_same _ g 1 _ _ v1 h0
 have h2:=heap_setCell_same _ g 2 _ _ v2 h1
 have h3:=heap_setCell_same _ g 3 _ _ v3 h2
 exact h3
theorem below5 {w:World} {g n:Nat} (hg:n≤g) (v0 v1 v2 v3 v4:Value) :
  Below n w (((((w.setCell ⟨g,0,none⟩ v0).setCell ⟨g,1,none⟩ v1).setCell ⟨g,2,none⟩ v2).setCell ⟨g,3,none⟩ v3).setCell ⟨g,4,none⟩ v4):=
 (((((Below.refl n w).setCell (p:=⟨g,0,none⟩) hg v0).setCell (p:=⟨g,1,none⟩) hg v1).setCell (p:=⟨g,2,none⟩) hg v2).setCell (p:=⟨g,3,none⟩) hg v3).setCell (p:=⟨g,4,none⟩) hg v4
structure D5 (w:World) (g:Nat) (a b c d e:Value):Prop where
 row:w.heap[g]?=some (.cells #[a,b,c,d,e] 199 (0,0))
section
variable {w w':World} {g:Nat} {a b c d e:Value}
theorem D5.c0 (h:D5 w g a b c d e):w.cell? ⟨g,0,none⟩=some a:=by rw [cell_of_row _ _ _ _ _ _ h.row];rfl
theorem D5.c1 (h:D5 w g a b c d e):w.cell? ⟨g,1,none⟩=some b:=by rw [cell_of_row _ _ _ _ _ _ h.row];rfl
theorem D5.c2 (h:D5 w g a b c d e):w.cell? ⟨g,2,none⟩=some c:=by rw [cell_of_row _ _ _ _ _ _ h.row];rfl
theorem D5.c3 (h:D5 w g a b c d e):w.cell? ⟨g,3,none⟩=some d:=by rw [cell_of_row _ _ _ _ _ _ h.row];rfl
theorem D5.c4 (h:D5 w g a b c d e):w.cell? ⟨g,4,none⟩=some e:=by rw [cell_of_row _ _ _ _ _ _ h.row];rfl
theorem D5.fz (h:D5 w g a b c d e) (i:Nat):w.frozen? ⟨g,i,none⟩=false:=frozen_of_row w g i _ _ h.row
theorem D5.below (h:D5 w g a b c d e) (hb:Below w.heap.size w w'):D5 w' g a b c d e:=⟨(hb.block g (lt_of_block h.row)).trans h.row⟩
theorem D5.only {k:Nat} (h:D5 w g a b c d e) (ho:Only k w w') (hk:g≠k):D5 w' g a b c d e:=⟨(ho.block g (lt_of_block h.row) hk).trans h.row⟩
end
set_option maxRecDepth 100000 in
set_option maxHeartbeats 1600000 in
theorem dec_len (p:Option Addr) (n c:Nat) (bs:List Nat) (w:World) (hn:n≤9223372036854775807) (hw:wholeE n≠0) :
  Calls Tryz.prog 148 #[.slice p n c] w fun e w'=>DecR w' n bs e∧Below w.heap.size w w':=by
 have HE:Hid (dirE n bs=wholeE n∧wholeE n≠0):=Lib.hid ⟨by unfold dirE;rw [if_pos hw],hw⟩
 have HW:=Lib.hid (fun w=>whole_any p n c w hn)
 have hne:(wholeE n == 0)=false:=by simpa using hw
 have HB:Hid (Below w.heap.size w (w.alloc (.cells #[.int .i64 0,.int .i64 0,.int .i64 0,.int .i64 0,.pointer none] 199))):=Lib.hid ((Below.refl _ _).alloc (Nat.le_refl _) _)
 have HH:Hid (D5 (w.alloc (.cells #[.int .i64 0,.int .i64 0,.int .i64 0,.int .i64 0,.pointer none] 199)) w.heap.size (.int .i64 0) (.int .i64 0) (.int .i64 0) (.int .i64 0) (.pointer none)):=Lib.hid ⟨heap_alloc_new w _⟩
 have KI:Hid ((Tryz.prog.info? 199).map (·.size)=some (#[Value.int .i64 0,.int .i64 0,.int .i64 0,.int .i64 0,.pointer none]:Array Value).size):=Lib.hid size199
 clear hw hn
 go_enter Tryz.func148,Tryz.ntmps148
 go_upto_region 1 with fail
 generalize w.alloc _=W at *
 generalize hz:wholeE n=z at *
 have HZ:=Lib.hid hz
 clear hz
 have r0:=HH.out.c0
 have r1:=HH.out.c1
 have r2:=HH.out.c2
 have r3:=HH.out.c3
 have r4:=HH.out.c4
 have f0:=HH.out.fz 0
 have f1:=HH.out.fz 1
 have f2:=HH.out.fz 2
 have f3:=HH.out.fz 3
 have f4:=HH.out.fz 4
 go_wp2_with (go_at_call 188;refine(HW.out _).mono ?_;rintro e w7 ⟨rfl,rfl⟩)
 refine bodyPost_ret (results_dec Tryz.results148 _ _ w.heap.size 199 _ (0,0) _ rfl (set5 _ _ _ _ _ HH.out.row) Tryz.underlying199 rfl KI.out) rfl ?_
 exact⟨.inr ⟨by rw [HE.out.1];exact HE.out.2,by rw [HE.out.1];rfl⟩,HB.out.trans (below5 (Nat.le_refl _) _ _ _ _ _)⟩
end Tb
end
section
set_option maxRecDepth 20000
namespace Tb
open Go.Proofs.YtmbecjlioogbhaaGreatDoor.Bi
open Go.RowKit
theorem only5 {g:Nat} (w:World) (v0 v1 v2 v3 v4:Value) :
  Only g w (((((w.setCell ⟨g,0,none⟩ v0).setCell ⟨g,1,none⟩ v1).setCell ⟨g,2,none⟩ v2).setCell ⟨g,3,none⟩ v3).setCell ⟨g,4,none⟩ v4):=
 ((((Only.setCell g 0 v0 w).trans (Only.setCell g 1 v1 _)).trans (Only.setCell g 2 v2 _)).trans (Only.setCell g 3 v3 _)).trans (Only.setCell g 4 v4 _)
set_option maxRecDepth 100000 in
set_option maxHeartbeats 3200000 in
theorem dec_page (p:Option Addr) (c:Nat) (bs:List Nat) (w:World) (hB:Bys w p 512 bs) (hc:512≤c) (hc2:c≤9223372036854775807) :
  Calls Tryz.prog 148 #[.slice p 512 c] w fun e w'=>DecR w' 512 bs e∧Below w.heap.size w w':=by
 have hl:=hB.len
 have HE:Hid (dirE 512 bs=if okV (valB bs) 4 && allZ (bs.drop 80) 432 then 0 else 4):=Lib.hid (by unfold dirE;rw [if_neg (by decide)])
 have HOf:=Lib.hid (ofE_dir hl hB.dig)
 have HLT:=Lib.hid (hB.lt (by omega))
 obtain⟨bb,o,rfl,hcell⟩:=hB.at (by omega)
 have hbl:=HLT.out bb o rfl
 have HW:=Lib.hid (fun w=>whole_any (some ⟨bb,o,none⟩) 512 c w (by omega))
 have HB:Hid (Below w.heap.size w (w.alloc (.cells #[.int .i64 0,.int .i64 0,.int .i64 0,.int .i64 0,.pointer none] 199))):=Lib.hid ((Below.refl _ _).alloc (Nat.le_refl _) _)
 have HH:Hid (D5 (w.alloc (.cells #[.int .i64 0,.int .i64 0,.int .i64 0,.int .i64 0,.pointer none] 199)) w.heap.size (.int .i64 0) (.int .i64 0) (.int .i64 0) (.int .i64 0) (.pointer none)):=Lib.hid ⟨heap_alloc_new w _⟩
 have KI:Hid ((Tryz.prog.info? 199).map (·.size)=some (#[Value.int .i64 0,.int .i64 0,.int .i64 0,.int .i64 0,.pointer none]:Array Value).size):=Lib.hid size199
 have HBY:=Lib.hid hB
 have HBL:=Lib.hid hbl
 have HCC:=Lib.hid (And.intro hc hc2)
 have hcz:(512:Int)≤(c:Int):=by omega
 have hcz2:(c:Int)≤9223372036854775807:=by omega
 clear hl hcell hbl HLT hB hc2
 go_enter Tryz.func148,Tryz.ntmps148
 go_upto_region 1 with fail
 have HSZ:Hid ((w.alloc (.cells #[.int .i64 0,.int .i64 0,.int .i64 0,.int .i64 0,.pointer none] 199)).heap.size=w.heap.size+1):=Lib.hid (by simp)
 generalize w.alloc _=W at *
 have HB1:Hid (Below W.heap.size W (W.alloc (.cells #[.int .i64 0,.int .i64 0,.int .i64 0,.int .i64 0,.pointer none] 199))):=Lib.hid ((Below.refl _ _).alloc (Nat.le_refl _) _)
 have HD:Hid (D5 (W.alloc (.cells #[.int .i64 0,.int .i64 0,.int .i64 0,.int .i64 0,.pointer none] 199)) W.heap.size (.int .i64 0) (.int .i64 0) (.int .i64 0) (.int .i64 0) (.pointer none)):=Lib.hid ⟨heap_alloc_new W _⟩
 go_upto_region 5 with (go_at_call 188;refine(HW.out _).mono ?_;rintro e w7 ⟨rfl,rfl⟩)
 generalize W.alloc _=W1 at *
 have HBW:Hid (Below w.heap.size w W1):=Lib.hid (HB.out.trans (HB1.out.mono HB.out.size))
 have HTK:=Lib.hid (take_any W.heap.size 4 4 512 c (some ⟨bb,o,none⟩) bs W1 (by omega) (by omega) (fun j hj=>by
  rw [Nat.zero_add]
  refine⟨?_,HD.out.fz j⟩
  rcases (show j=0∨j=1∨j=2∨j=3 by omega) with rfl | rfl | rfl | rfl
  ·rw [HD.out.c0];rfl
  ·rw [HD.out.c1];rfl
  ·rw [HD.out.c2];rfl
  ·rw [HD.out.c3];rfl) (HBY.out.below HBW.out) (by omega) HCC.out.1 HCC.out.2 (fun b o' e=>by cases e;have:=HBL.out;have:=HSZ.out;omega))
 have HRW:=Lib.hid (HH.out.below HB1.out)
 have hneR:Hid (w.heap.size≠W.heap.size):=Lib.hid (by have:=HSZ.out;omega)
 cases hok:okV (valB bs) 4 with
 | false=>
  have HE4:Hid (dirE 512 bs=4):=Lib.hid (by rw [HE.out,hok];rfl)
  rw [hok] at HTK
  clear hok
  go_upto_region 6 with (go_at_call 189;refine HTK.out.mono ?_;rintro e w8 ⟨rfl,k,hk,hw8,-⟩;have HW8:=Lib.hid hw8;clear hk hw8)
  have HO8:Hid (Only W.heap.size W1 w8):=Lib.hid (by rw [HW8.out];exact only_segs _ _ _ _)
  have HR5:=Lib.hid (HRW.out.only HO8.out hneR.out)
  have r0:=HR5.out.c0
  have r1:=HR5.out.c1
  have r2:=HR5.out.c2
  have r3:=HR5.out.c3
  have r4:=HR5.out.c4
  have f0:=HR5.out.fz 0
  have f1:=HR5.out.fz 1
  have f2:=HR5.out.fz 2
  have f3:=HR5.out.fz 3
  have f4:=HR5.out.fz 4
  go_wp2_with fail
  refine bodyPost_ret (results_dec Tryz.results148 _ _ w.heap.size 199 _ (0,0) _ rfl (set5 _ _ _ _ _ HR5.out.row) Tryz.underlying199 rfl KI.out) rfl ?_
  exact⟨.inr ⟨by rw [HE4.out];decide,by rw [HE4.out];rfl⟩,(HO8.out.below HBW.out HBW.out.size (by have:=HSZ.out;omega)).trans (below5 (Nat.le_refl _) _ _ _ _ _)⟩
 | true=>
  have hok0:=hok
  rw [hok] at HTK
  have hgen:∀w8,Only W.heap.size W1 w8→Calls Tryz.prog 190 #[.slice (some ⟨bb,o+80,none⟩) 432 (c - 80)] w8 fun e w'=>e = .returned (.bool (allZ (bs.drop 80) 432))∧w8=w':=fun w8 ho=>
   zeros_any _ 432 _ _ w8 (((HBY.out.below HBW.out).drop (k:=80) (j:=432) (by omega)).only ho (fun b o' e=>by cases e;have:=HBL.out;have:=HSZ.out;omega)) (by omega)
  have HGZ:=Lib.hid hgen
  clear hgen
  have HSL:Hid (∀k:Nat,ints (valB bs) 0 4=[.int .i64 ((valB bs 0:Nat):Int),.int .i64 ((valB bs 1:Nat):Int),.int .i64 ((valB bs 2:Nat):Int),.int .i64 ((valB bs 3:Nat):Int)]∧k=k):=Lib.hid fun k=>⟨rfl,rfl⟩
  have HD4:Hid (D5 (W1.setCells W.heap.size 0 (ints (valB bs) 0 4)) W.heap.size (.int .i64 ((valB bs 0:Nat):Int)) (.int .i64 ((valB bs 1:Nat):Int)) (.int .i64 ((valB bs 2:Nat):Int)) (.int .i64 ((valB bs 3:Nat):Int)) (.pointer none)):=Lib.hid ⟨by
   rw [(HSL.out 0).1];exact set4 _ _ _ _ HD.out.row⟩
  have HO4:Hid (Only W.heap.size W1 (W1.setCells W.heap.size 0 (ints (valB bs) 0 4))):=Lib.hid (only_segs _ _ _ _)
  clear hok
  go_upto_if 24 with (first
   | (go_at_call 189;refine HTK.out.mono ?_;rintro e w8 ⟨rfl,k,hk,hw8,hfull⟩;obtain rfl:k=4:=hfull rfl;have HW8:=Lib.hid hw8;clear hk hw8 hfull)
   | (go_at_call 190;refine(HGZ.out _ (by rw [HW8.out];exact HO4.out)).mono ?_;rintro e w9 ⟨rfl,rfl⟩))
  rw [←HW8.out] at HD4 HO4
  have HBE:Hid (Below w.heap.size w w8):=Lib.hid (HO4.out.below HBW.out HBW.out.size (by have:=HSZ.out;omega))
  cases hz:allZ (bs.drop 80) 432 with
  | false=>
   have HE4:Hid (dirE 512 bs=4):=Lib.hid (by rw [HE.out,hz,Bool.and_false];rfl)
   clear hz
   have HR5:=Lib.hid (HRW.out.only HO4.out hneR.out)
   have r0:=HR5.out.c0
   have r1:=HR5.out.c1
   have r2:=HR5.out.c2
   have r3:=HR5.out.c3
   have r4:=HR5.out.c4
   have f0:=HR5.out.fz 0
   have f1:=HR5.out.fz 1
   have f2:=HR5.out.fz 2
   have f3:=HR5.out.fz 3
   have f4:=HR5.out.fz 4
   go_wp2_with fail
   refine bodyPost_ret (results_dec Tryz.results148 _ _ w.heap.size 199 _ (0,0) _ rfl (set5 _ _ _ _ _ HR5.out.row) Tryz.underlying199 rfl KI.out) rfl ?_
   exact⟨.inr ⟨by rw [HE4.out];decide,by rw [HE4.out];rfl⟩,HBE.out.trans (below5 (Nat.le_refl _) _ _ _ _ _)⟩
  | true=>
   have HE0:Hid (dirE 512 bs=0):=Lib.hid (by rw [HE.out,hz,hok0];rfl)
   clear hz
   have hOfc:=of_any 512 (some ⟨bb,o+16,none⟩) 64 (c - 16) (dsB bs) w8 (by omega) ((((HBY.out.below HBW.out).only HO4.out (fun b o' e=>by cases e;have:=HBL.out;have:=HSZ.out;omega)).drop (k:=16) (j:=496) (by omega)).take (k:=64) (by omega))
   rw [HOf.out] at hOfc
   have HOfc:=Lib.hid hOfc
   clear hOfc
   have HOZ:Hid (ofE 512 (dsB bs)≠0→False):=Lib.hid (fun h=>h HOf.out)
   have HR8:=Lib.hid (HRW.out.only HO4.out hneR.out)
   go_upto_region 10 with (go_at_call 191;refine HOfc.out.mono ?_;rintro e w9 ⟨⟨v,rfl,hr⟩,hb9⟩;replace hr:=hr.resolve_right (fun q=>HOZ.out q.1);obtain⟨-,g,b,rfl,hg,hb,hsat⟩:=hr;have HSAT:=Lib.hid hsat;have HGG:=Lib.hid (And.intro hg hb);have HB9:=Lib.hid hb9;clear hsat hg hb hb9)
   have HD9:=Lib.hid (HD4.out.below HB9.out)
   have HR9:=Lib.hid (HR8.out.below HB9.out)
   have c4:=HD9.out.c4
   have z4:=HD9.out.fz 4
   have HDX:Hid (D5 (w9.setCell ⟨W.heap.size,4,none⟩ (.pointer (some ⟨g,0,none⟩))) W.heap.size (.int .i64 ((valB bs 0:Nat):Int)) (.int .i64 ((valB bs 1:Nat):Int)) (.int .i64 ((valB bs 2:Nat):Int)) (.int .i64 ((valB bs 3:Nat):Int)) (.pointer (some ⟨g,0,none⟩))):=Lib.hid ⟨heap_setCell_same _ _ 4 _ _ _ HD9.out.row⟩
   have HOX:Hid (Only W.heap.size w9 (w9.setCell ⟨W.heap.size,4,none⟩ (.pointer (some ⟨g,0,none⟩)))):=Lib.hid (Only.setCell _ _ _ _)
   go_upto_region 11 with fail
   clear c4 z4
   generalize w9.setCell _ _=w10 at *
   have HRX:=Lib.hid (HR9.out.only HOX.out hneR.out)
   have hlt8:W.heap.size<w8.heap.size:=lt_of_block HD4.out.row
   have hltR:w.heap.size<w8.heap.size:=lt_of_block HR8.out.row
   have HSX:=Lib.hid (HSAT.out.only HOX.out (by have:=HGG.out;omega) (by have:=HGG.out;omega))
   have HBX:Hid (Below w.heap.size w w10):=Lib.hid (HOX.out.below (HBE.out.trans (HB9.out.mono (by omega))) (by have:=HB9.out.size;omega) (by have:=HSZ.out;omega))
   have HGR:Hid (g≠w.heap.size∧b≠w.heap.size):=Lib.hid (by have:=HGG.out;omega)
   clear hlt8 hltR
   have d0:=HDX.out.c0
   have d1:=HDX.out.c1
   have d2:=HDX.out.c2
   have d3:=HDX.out.c3
   have d4:=HDX.out.c4
   have r0:=HRX.out.c0
   have r1:=HRX.out.c1
   have r2:=HRX.out.c2
   have r3:=HRX.out.c3
   have r4:=HRX.out.c4
   have f0:=HRX.out.fz 0
   have f1:=HRX.out.fz 1
   have f2:=HRX.out.fz 2
   have f3:=HRX.out.fz 3
   have f4:=HRX.out.fz 4
   go_wp2_with fail
   refine bodyPost_ret (results_dec Tryz.results148 _ _ w.heap.size 199 _ (0,0) _ rfl (set5 _ _ _ _ _ HRX.out.row) Tryz.underlying199 rfl KI.out) rfl ?_
   exact⟨.inl ⟨HE0.out,g,b,rfl,HSX.out.only (only5 _ _ _ _ _ _) HGR.out.1 HGR.out.2⟩,HBX.out.trans (below5 (Nat.le_refl _) _ _ _ _ _)⟩
theorem dec_any (p:Option Addr) (n c:Nat) (bs:List Nat) (w:World) (hB:Bys w p n bs) (hnc:n≤c) (hc2:c≤9223372036854775807) :
  Calls Tryz.prog 148 #[.slice p n c] w fun e w'=>DecR w' n bs e∧Below w.heap.size w w':=by
 by_cases h:wholeE n≠0
 ·exact dec_len p n c bs w (by omega) h
 ·have hn:n=512:=by
   unfold wholeE at h
   split at h <;> simp_all
   all_goals omega
  subst hn
  exact dec_page p c bs w hB hnc hc2
end Tb
end
section
set_option maxRecDepth 20000
open Go.RowKit
structure St where
 r:Rt
 lv:Nat→Nat
 tb:Nat→Nat
 us:Option (Nat→Bool)
structure Sp where
 g:St
 od:Option (Nat→Bool)
 kp:Nat→Nat
 fr:Pgs
 ch:Bool
def Stp (w:World) (p:Option Addr):Option (Nat→Bool)→Prop
 | none=>p=none
 | some f=>∃g b,p=some ⟨g,0,none⟩∧Bi.Sat w g b 512 f
def spA (d:Nat) (r:Rt) (lv:Nat→Nat) (pt:Option Addr) (pu po pk:Option Addr) (mb:Option Nat) (ch:Bool):Array Value:=
 #[.pointer (some ⟨d, 0, none⟩), .int .i64 r.ep, .int .i64 r.pg, .int .i64 r.dr, .int .i64 r.wd, .int .i64 (lv 0 : Nat), .int .i64 (lv 1 : Nat), .int .i64 (lv 2 : Nat), .int .i64 (lv 3 : Nat),
  .pointer pt,.pointer pu,.pointer po,.pointer pk,.map mb,.bool ch]
structure Spc0 (w:World) (g d pt pk mb:Nat) (pu po:Option Addr) (s:Sp):Prop where
 box:w.heap[g]?=some (.cells (spA d s.g.r s.g.lv (some ⟨pt,0,none⟩) pu po (some ⟨pk,0,none⟩) (some mb) s.ch) 101 (0,0))
 tab:Tb.Tab w pt s.g.tb
 kep:Tb.Tab w pk s.kp
 map:Frs w mb s.fr
 us:Stp w pu s.g.us
 od:Stp w po s.od
 ne:pt≠pk
def Spc (w:World) (g:Nat) (G:List Nat) (d:Nat) (s:Sp):Prop:=∃pt pk mb pu po,Spc0 w g d pt pk mb pu po s∧G=[g,pt,pk,mb]
def Kin (w:World) (K:List Nat):Prop:=∀k∈K,(∃es c,w.heap[k]?=some (.map es c))∨∃cs t fr,w.heap[k]?=some (.cells cs t fr)∧(t=89∨t=71∨t=151∨t=101∨t=187∨t=78∨t=82∨t=214∨t=216)
theorem Kin.nil_ (w:World):Kin w []:=fun _ h=>by cases h
theorem Typed.kin {w:World} {F:List Nat} (h:Typed w F):Kin w F:=fun k hk=>by
 obtain⟨cs,t,fr,h1,h2⟩:=h k hk
 exact .inr ⟨cs,t,fr,h1,by rcases h2 with h2 | h2 | h2 <;> simp [h2]⟩
theorem Spc0.kin {w:World} {g d pt pk mb:Nat} {pu po:Option Addr} {s:Sp} (h:Spc0 w g d pt pk mb pu po s):Kin w [g,pt,pk,mb]:=by
 intro k hk
 simp only [List.mem_cons,List.not_mem_nil,or_false] at hk
 rcases hk with rfl | rfl | rfl | rfl
 ·exact .inr ⟨_,_,_,h.box,by simp⟩
 ·exact .inr ⟨_,_,_,h.tab.row,by simp⟩
 ·exact .inr ⟨_,_,_,h.kep.row,by simp⟩
 ·exact .inl h.map.isMap
theorem Spc.kin {w:World} {g d:Nat} {G:List Nat} {s:Sp} (h:Spc w g G d s):Kin w G:=by
 obtain⟨pt,pk,mb,pu,po,h,rfl⟩:=h
 exact h.kin
theorem Spc0.lts {w:World} {g d pt pk mb:Nat} {pu po:Option Addr} {s:Sp} (h:Spc0 w g d pt pk mb pu po s):g<w.heap.size∧pt<w.heap.size∧pk<w.heap.size∧mb<w.heap.size:=
 ⟨lt_of_block h.box,h.tab.lt,h.kep.lt,h.map.lt⟩
theorem Kin.lt {w:World} {K:List Nat} (h:Kin w K):∀k∈K,k<w.heap.size:=fun k hk=>by
 rcases h k hk with ⟨es,c,h1⟩ | ⟨cs,t,fr,h1,_⟩
 ·exact(Array.getElem?_eq_some_iff.1 h1).1
 ·exact lt_of_block h1
theorem Chg.keep2 {F F':List Nat} {w w':World} (h:Chg F F' w w') (hT:Kin w F) {b t:Nat} {cs:Array Value} {fr:Nat × Nat} (hb:w.heap[b]?=some (.cells cs t fr)) (ht:t≠89∧t≠71∧t≠151∧t≠101∧t≠187∧t≠78∧t≠82∧t≠214∧t≠216):w'.heap[b]?=some (.cells cs t fr):=by
 rw [h.block b (lt_of_block hb) (fun e=>by
  rcases hT b e with ⟨es,c,h2⟩ | ⟨cs2,t2,fr2,h2,h3⟩
  ·rw [hb] at h2;cases h2
  ·rw [hb] at h2
   cases h2
   rcases h3 with h3 | h3 | h3 | h3 | h3 | h3 | h3 | h3 | h3
   ·exact ht.1 h3
   ·exact ht.2.1 h3
   ·exact ht.2.2.1 h3
   ·exact ht.2.2.2.1 h3
   ·exact ht.2.2.2.2.1 h3
   ·exact ht.2.2.2.2.2.1 h3
   ·exact ht.2.2.2.2.2.2.1 h3
   ·exact ht.2.2.2.2.2.2.2.1 h3
   ·exact ht.2.2.2.2.2.2.2.2 h3),hb]
theorem Sec.chg2 {F F':List Nat} {w w':World} {v:Value} {s:List Nat} (hs:Sec w v s) (h:Chg F F' w w') (hT:Kin w F):Sec w' v s:=by
 obtain⟨b,c,cur,fr,rfl,hh,hr⟩:=hs
 exact⟨b,c,cur,fr,rfl,h.keep2 hT hh (by decide),hr⟩
theorem Dk0.stay2 {w w':World} {F F':List Nat} {g bO cO bL cL:Nat} {vW:Value} {os ls:List Value} {ws:List Vw} {m:Dsk} (h:Dk0 w g bO cO bL cL vW os ls ws m) (hc:Chg F F' w w') (hT:Kin w F) (hF:∀k∈foot g bO bL vW,k∉F):Dk0 w' g bO cO bL cL vW os ls ws m:=by
 have hs:∀k∈foot g bO bL vW,w'.heap[k]?=w.heap[k]?:=fun k hk=>hc.block k (by
  obtain⟨cs,t,fr,h1,_⟩:=h.typed k hk;exact lt_of_block h1) (hF k hk)
 refine⟨(hs g (by simp [foot])).trans h.hd,own_other h.ro (fun k hk=>hs k ?_),own_other h.rl (fun k hk=>hs k ?_),own_other h.rw_ (fun k hk=>hs k ?_),⟨h.so.len,fun i hi=>(h.so.at_ i hi).chg2 hc hT⟩,⟨h.sl.len,fun i hi=>(h.sl.at_ i hi).chg2 hc hT⟩,⟨h.sw.len,fun i hi=>⟨(h.sw.at_ i hi).1,(h.sw.at_ i hi).2.chg2 hc hT⟩⟩,h.nil_,h.ne,h.ok⟩
 ·cases hk;simp [foot]
 ·cases hk;simp [foot]
 ·simp [foot,hk]
theorem Dk.stay2 {w w':World} {F F1 F':List Nat} {g:Nat} {m:Dsk} (h:Dk w g F1 m) (hc:Chg F F' w w') (hT:Kin w F) (hF:∀k∈F1,k∉F):Dk w' g F1 m:=by
 obtain⟨bO,cO,bL,cL,vW,os,ls,ws,h,rfl⟩:=h
 exact⟨bO,cO,bL,cL,vW,os,ls,ws,h.stay2 hc hT hF,rfl⟩
theorem Row5.chg2 {F F':List Nat} {w w':World} {g N:Nat} {us:List Nat} (hs:Row5 w g N us) (h:Chg F F' w w') (hT:Kin w F):Row5 w' g N us:=by
 obtain⟨cur,hc⟩:=hs.head
 exact hs.same ((h.keep2 hT hc (by decide)).trans hc.symm)
theorem Sat.chg2 {F F':List Nat} {w w':World} {g b n:Nat} {f:Nat→Bool} (hs:Bi.Sat w g b n f) (h:Chg F F' w w') (hT:Kin w F):Bi.Sat w' g b n f:=
 ⟨hs.le,hs.sub,hs.ne,h.keep2 hT hs.box (by decide),hs.row.chg2 h hT⟩
theorem Stp.chg2 {F F':List Nat} {w w':World} {p:Option Addr} {f:Option (Nat→Bool)} (hs:Stp w p f) (h:Chg F F' w w') (hT:Kin w F):Stp w' p f:=by
 cases f with
 | none=>exact hs
 | some f=>
  obtain⟨g,b,e,hs⟩:=hs
  exact⟨g,b,e,Sat.chg2 hs h hT⟩
theorem Stp.below {w w':World} {p:Option Addr} {f:Option (Nat→Bool)} (hs:Stp w p f) (h:Below w.heap.size w w'):Stp w' p f:=
 hs.chg2 (Chg.of_below (F:=[]) h) (Kin.nil_ w)
theorem Spc0.stay {w w':World} {F F':List Nat} {g d pt pk mb:Nat} {pu po:Option Addr} {s:Sp} (h:Spc0 w g d pt pk mb pu po s) (hc:Chg F F' w w') (hT:Kin w F) (hF:∀k∈[g,pt,pk,mb],k∉F):Spc0 w' g d pt pk mb pu po s:=by
 obtain⟨l1,l2,l3,l4⟩:=h.lts
 exact⟨(hc.block g l1 (hF g (by simp))).trans h.box,h.tab.same (hc.block pt l2 (hF pt (by simp))),h.kep.same (hc.block pk l3 (hF pk (by simp))),h.map.same (hc.block mb l4 (hF mb (by simp))),h.us.chg2 hc hT,h.od.chg2 hc hT,h.ne⟩
theorem Spc.stay {w w':World} {F F':List Nat} {g d:Nat} {G:List Nat} {s:Sp} (h:Spc w g G d s) (hc:Chg F F' w w') (hT:Kin w F) (hF:∀k∈G,k∉F):Spc w' g G d s:=by
 obtain⟨pt,pk,mb,pu,po,h,rfl⟩:=h
 exact⟨pt,pk,mb,pu,po,h.stay hc hT hF,rfl⟩
theorem Spc0.below {w w':World} {g d pt pk mb:Nat} {pu po:Option Addr} {s:Sp} (h:Spc0 w g d pt pk mb pu po s) (hb:Below w.heap.size w w'):Spc0 w' g d pt pk mb pu po s:=
 h.stay (Chg.of_below (F:=[]) hb) (Kin.nil_ w) (fun _ _ h=>by cases h)
theorem Spc.below {w w':World} {g d:Nat} {G:List Nat} {s:Sp} (h:Spc w g G d s) (hb:Below w.heap.size w w'):Spc w' g G d s:=
 h.stay (Chg.of_below (F:=[]) hb) (Kin.nil_ w) (fun _ _ h=>by cases h)
theorem apart_of {w:World} {F:List Nat} {g d pt pk mb:Nat} {pu po:Option Addr} {s:Sp} (hF:Typed w F) (h:Spc0 w g d pt pk mb pu po s):∀k∈[g,pt,pk,mb],k∉F:=by
 intro k hk hf
 obtain⟨cs,t,fr,h1,h2⟩:=hF k hf
 simp only [List.mem_cons,List.not_mem_nil,or_false] at hk
 rcases hk with rfl | rfl | rfl | rfl
 ·rw [h.box] at h1;cases h1;revert h2;decide
 ·have:=h.tab.row;unfold Tb.IsT at this;rw [this] at h1;cases h1;revert h2;decide
 ·have:=h.kep.row;unfold Tb.IsT at this;rw [this] at h1;cases h1;revert h2;decide
 ·obtain⟨es,c,hm⟩:=h.map.isMap;rw [hm] at h1;cases h1
theorem apart_of' {w:World} {F G:List Nat} {g d:Nat} {s:Sp} (hF:Typed w F) (h:Spc w g G d s):∀k∈G,k∉F:=by
 obtain⟨pt,pk,mb,pu,po,h,rfl⟩:=h
 exact apart_of hF h
theorem Chg.of_only {G:List Nat} {k:Nat} {w w':World} (h:Only k w w') (hk:k∈G):Chg G G w w':=
 ⟨h.os,h.tape,h.output,h.size,fun i hi hG=>h.block i hi (fun e=>hG (by rw [e];exact hk)),fun _ h=>.inl h⟩
def goneA:Array Value:=#[.pointer none,.int .i64 0,.int .i64 0,.int .i64 0,.int .i64 0,.int .i64 0,.int .i64 0,.int .i64 0,.int .i64 0,.pointer none,.pointer none,.pointer none,.pointer none,.map none,.bool false]
def Gone (w:World) (g:Nat):Prop:=w.heap[g]?=some (.cells goneA 101 (0,0))
section
variable {w:World} {g d pt pk mb:Nat} {pu po:Option Addr} {s:Sp}
theorem Spc0.cell (h:Spc0 w g d pt pk mb pu po s) (i:Nat) (v:Value) (hv:(spA d s.g.r s.g.lv (some ⟨pt,0,none⟩) pu po (some ⟨pk,0,none⟩) (some mb) s.ch)[i]?=some v):w.cell? ⟨g,i,none⟩=some v:=by
 rw [cell_of_row _ _ _ _ _ _ h.box];exact hv
theorem Spc0.c0 (h:Spc0 w g d pt pk mb pu po s):w.cell? ⟨g,0,none⟩=some (.pointer (some ⟨d,0,none⟩)):=h.cell 0 _ rfl
theorem Spc0.c1 (h:Spc0 w g d pt pk mb pu po s):w.cell? ⟨g,1,none⟩=some (.int .i64 s.g.r.ep):=h.cell 1 _ rfl
theorem Spc0.c2 (h:Spc0 w g d pt pk mb pu po s):w.cell? ⟨g,2,none⟩=some (.int .i64 s.g.r.pg):=h.cell 2 _ rfl
theorem Spc0.c3 (h:Spc0 w g d pt pk mb pu po s):w.cell? ⟨g,3,none⟩=some (.int .i64 s.g.r.dr):=h.cell 3 _ rfl
theorem Spc0.c4 (h:Spc0 w g d pt pk mb pu po s):w.cell? ⟨g,4,none⟩=some (.int .i64 s.g.r.wd):=h.cell 4 _ rfl
theorem Spc0.c6 (h:Spc0 w g d pt pk mb pu po s):w.cell? ⟨g,6,none⟩=some (.int .i64 (s.g.lv 1:Nat)):=h.cell 6 _ rfl
theorem Spc0.c8 (h:Spc0 w g d pt pk mb pu po s):w.cell? ⟨g,8,none⟩=some (.int .i64 (s.g.lv 3:Nat)):=h.cell 8 _ rfl
theorem Spc0.c9 (h:Spc0 w g d pt pk mb pu po s):w.cell? ⟨g,9,none⟩=some (.pointer (some ⟨pt,0,none⟩)):=h.cell 9 _ rfl
theorem Spc0.c10 (h:Spc0 w g d pt pk mb pu po s):w.cell? ⟨g,10,none⟩=some (.pointer pu):=h.cell 10 _ rfl
theorem Spc0.c11 (h:Spc0 w g d pt pk mb pu po s):w.cell? ⟨g,11,none⟩=some (.pointer po):=h.cell 11 _ rfl
theorem Spc0.c12 (h:Spc0 w g d pt pk mb pu po s):w.cell? ⟨g,12,none⟩=some (.pointer (some ⟨pk,0,none⟩)):=h.cell 12 _ rfl
theorem Spc0.c13 (h:Spc0 w g d pt pk mb pu po s):w.cell? ⟨g,13,none⟩=some (.map (some mb)):=h.cell 13 _ rfl
theorem Spc0.c14 (h:Spc0 w g d pt pk mb pu po s):w.cell? ⟨g,14,none⟩=some (.bool s.ch):=h.cell 14 _ rfl
theorem Spc0.fz (h:Spc0 w g d pt pk mb pu po s) (i:Nat):w.frozen? ⟨g,i,none⟩=false:=frozen_of_row w g i _ _ h.box
end
end
section
set_option maxRecDepth 20000
open Go.RowKit
theorem field_root (x y z u:Int):(∀w,(Instr.field 93 (.agg #[.int .i64 x,.int .i64 y,.int .i64 z,.int .i64 u]) 0).run Tryz.prog w = .ok (.int .i64 x) w)∧(∀w,(Instr.field 93 (.agg #[.int .i64 x,.int .i64 y,.int .i64 z,.int .i64 u]) 1).run Tryz.prog w = .ok (.int .i64 y) w) ∧
  (∀w,(Instr.field 93 (.agg #[.int .i64 x,.int .i64 y,.int .i64 z,.int .i64 u]) 2).run Tryz.prog w = .ok (.int .i64 z) w)∧(∀w,(Instr.field 93 (.agg #[.int .i64 x,.int .i64 y,.int .i64 z,.int .i64 u]) 3).run Tryz.prog w = .ok (.int .i64 u) w):=
 ⟨fun w=>by kernel_rfl,fun w=>by kernel_rfl,fun w=>by kernel_rfl,fun w=>by kernel_rfl⟩
section
variable {w:World} {g d pt pk mb:Nat} {pu po:Option Addr} {s:Sp}
theorem refusal_any (h:Spc0 w g d pt pk mb pu po s):Calls Tryz.prog 47 #[.pointer (some ⟨g,0,none⟩)] w fun e w'=>e = .returned (.int .i64 0)∧w=w':=by
 have c0:=h.c0
 clear h
 go_enter Tryz.func47,Tryz.ntmps47
 go_wp2_with fail
 go_ret
 exact⟨rfl,rfl⟩
theorem root_any (h:Spc0 w g d pt pk mb pu po s):Calls Tryz.prog 84 #[.pointer (some ⟨g,0,none⟩)] w fun e w'=>e = .returned s.g.r.val∧Below w.heap.size w w':=by
 obtain⟨B1,hB1⟩:∃B1,w.alloc (.cells #[.int .i64 0,.int .i64 0,.int .i64 0,.int .i64 0] 93)=B1:=⟨_,rfl⟩
 have hb:Below w.heap.size w B1:=by rw [←hB1];exact alloc_below _ _
 have HR:Hid (RtAt B1 w.heap.size 93 Rt.none_):=Lib.hid (by rw [←hB1];exact RtAt.new w Rt.none_ 93)
 have c1:=(h.below hb).c1
 have c2:=(h.below hb).c2
 have c3:=(h.below hb).c3
 have c4:=(h.below hb).c4
 have k0:=HR.out.c0
 have k1:=HR.out.c1
 have k2:=HR.out.c2
 have k3:=HR.out.c3
 have fz:=HR.out.fz
 have HB:=Lib.hid hb
 have HF:Hid (Below w.heap.size w (set4 B1 w.heap.size s.g.r)):=Lib.hid (below_set4 HB.out (Nat.le_refl _) _)
 unfold set4 at HF
 clear h hb HR
 unfold Rt.val
 generalize s.g.r.ep=x at *
 generalize s.g.r.pg=y at *
 generalize s.g.r.dr=z at *
 generalize s.g.r.wd=u at *
 go_enter Tryz.func84,Tryz.ntmps84
 go_wp2_with fail
 exact bodyPost_ret (v:=.agg #[.int .i64 x,.int .i64 y,.int .i64 z,.int .i64 u]) (by simp [results,Tryz.results84,go_sem,k0,k1,k2,k3]) rfl ⟨rfl,HF.out⟩
theorem epoch_any (h:Spc0 w g d pt pk mb pu po s):Calls Tryz.prog 85 #[.pointer (some ⟨g,0,none⟩)] w fun e w'=>e = .returned (.int .i64 s.g.r.ep)∧Below w.heap.size w w':=by
 have HR:=Lib.hid (root_any h)
 clear h
 unfold Rt.val at HR
 obtain⟨f0,f1,f2,f3⟩:=field_root s.g.r.ep s.g.r.pg s.g.r.dr s.g.r.wd
 go_enter Tryz.func85,Tryz.ntmps85
 go_wp2_with (go_at_call 84;refine HR.out.mono ?_;rintro e w7 ⟨rfl,hb⟩)
 go_ret
 exact⟨rfl,hb⟩
theorem pages_any (h:Spc0 w g d pt pk mb pu po s):Calls Tryz.prog 86 #[.pointer (some ⟨g,0,none⟩)] w fun e w'=>e = .returned (.int .i64 s.g.r.pg)∧Below w.heap.size w w':=by
 have HR:=Lib.hid (root_any h)
 clear h
 unfold Rt.val at HR
 obtain⟨f0,f1,f2,f3⟩:=field_root s.g.r.ep s.g.r.pg s.g.r.dr s.g.r.wd
 go_enter Tryz.func86,Tryz.ntmps86
 go_wp2_with (go_at_call 84;refine HR.out.mono ?_;rintro e w7 ⟨rfl,hb⟩)
 go_ret
 exact⟨rfl,hb⟩
end
theorem noPages_any (w:World):Calls Tryz.prog 177 #[] w fun e w'=>(∃g b,e = .returned (.pointer (some ⟨g,0,none⟩))∧w.heap.size≤g∧w.heap.size≤b∧Bi.Sat w' g b 512 (fun _=>false))∧Below w.heap.size w w':=by
 have HN:=Lib.hid (Bi.new_yes 512 w (by decide))
 go_enter Tryz.func177,Tryz.ntmps177
 go_wp2_with (go_at_call 207;refine HN.out.mono ?_;rintro e w7 ⟨⟨g,b,rfl,h1,h2,h3⟩,hb⟩)
 go_ret
 exact⟨⟨g,b,rfl,h1,h2,h3⟩,hb⟩
end
section
set_option maxRecDepth 20000
namespace Bi
open Go.RowKit Go.Shelf
theorem rowF_set (f k:Nat→Bool) (m j:Nat):(rowF f m).set j (byt k j)=rowF (fun i=>if i / 8=j then k i else f i) m:=by
 refine getD_ext (by simp [rowF_len]) fun q hq=>?_
 rw [List.length_set,rowF_len] at hq
 rw [rowF_getD _ _ _ hq,List.getD_eq_getElem?_getD,List.getElem?_set]
 by_cases h:j=q
 ·subst h
  rw [if_pos rfl,if_pos (by rw [rowF_len];exact hq)]
  exact byt_congr fun i hi=>by rw [if_pos (by omega)]
 ·rw [if_neg h,←List.getD_eq_getElem?_getD,rowF_getD _ _ _ hq]
  exact byt_congr fun i hi=>by rw [if_neg (by omega)]
def mix (t:Bool) (f k:Nat→Bool) (j:Nat):Nat→Bool:=fun i=>if i<8*j then both t f k i else k i
theorem mix_zero (t:Bool) (f k:Nat→Bool):mix t f k 0=k:=by funext i;unfold mix;rw [if_neg (by omega)]
theorem mix_byt (t:Bool) (f k:Nat→Bool) (j:Nat):byt (mix t f k j) j=byt k j:=byt_congr fun i hi=>by unfold mix;rw [if_neg (by omega)]
theorem mix_succ (t:Bool) (f k:Nat→Bool) (j m:Nat):(rowF (mix t f k j) m).set j (join t (byt f j) (byt k j))=rowF (mix t f k (j+1)) m:=by
 rw [byt_join,rowF_set]
 refine rowF_congr fun i _=>?_
 unfold mix
 by_cases h1:i / 8=j
 ·rw [if_pos h1,if_pos (by omega)]
 ·rw [if_neg h1]
  by_cases h2:i<8*j
  ·rw [if_pos h2,if_pos (by omega)]
  ·rw [if_neg h2,if_neg (by omega)]
theorem both_sub {n:Nat} {t:Bool} {f k:Nat→Bool} (hf:Sub n f) (hk:Sub n k):Sub n (both t f k):=fun i hi=>by unfold both;rw [hf i hi,hk i hi];cases t <;> rfl
theorem mix_sub {n:Nat} {t:Bool} {f k:Nat→Bool} (hf:Sub n f) (hk:Sub n k) (j:Nat):Sub n (mix t f k j):=fun i hi=>by
 unfold mix;split
 ·exact both_sub hf hk i hi
 ·exact hk i hi
theorem mix_all {n:Nat} {t:Bool} {f k:Nat→Bool} (hf:Sub n f) (hk:Sub n k):mix t f k (need n)=both t f k:=
 sub_ext (mix_sub hf hk _) (both_sub hf hk) fun i hi=>by unfold mix;rw [if_pos (by unfold need;omega)]
theorem Sat.setj {w:World} {g b n:Nat} {t:Bool} {f k:Nat→Bool} {j:Nat} (h:Sat w g b n (mix t f k j)) (hf:Sub n f) (hk:Sub n k):Sat (w.setCell ⟨b,j,none⟩ (.int .u8 (join t (byt f j) (byt k j):Int))) g b n (mix t f k (j+1)):=
 ⟨h.le,mix_sub hf hk _,h.ne,(Below.heap_setCell w _ _ g (by show g≠b;exact h.ne)).trans h.box,by
  have h2:=h.row.put j (join t (byt f j) (byt k j))
  rw [mix_succ] at h2;exact h2⟩
set_option maxRecDepth 20000 in
set_option maxHeartbeats 3200000 in
theorem with_44 {w:World} {g b n:Nat} {f:Nat→Bool} (h:Sat w g b n f) (ov:Value) (bs:List Nat)
  (HO:Hid (∀w',Below w.heap.size w w'→Calls Tryz.prog 182 #[ov] w' fun e w2=>(∃p q c,e = .returned (.slice p q c)∧q≤256∧Bys w2 p q bs)∧Below w'.heap.size w' w2)) :
  Calls Tryz.prog 235 #[.pointer (some ⟨g,0,none⟩),ov,.func (.func 236) #[] #[]] w fun e w'=>(∃g' b',e = .returned (.pointer (some ⟨g',0,none⟩))∧w.heap.size≤g'∧w.heap.size≤b'∧Sat w' g' b' n (both true f (cut n (trs bs))))∧Below w.heap.size w w':=by
 have eg:∀args w,(callFunc 236 args).run Tryz.prog w = .ok (.enter 236 args) w:=enters_of Tryz.func236 (by kernel_rfl) rfl
 have H:=Lib.hid h
 have HSub:=Lib.hid h.sub
 have HN:=Lib.hid h.le
 have l0:=h.c0
 clear h
 go_enter Tryz.func235,Tryz.ntmps235
 go_upto_region 3 with fail
 go_cut [7] (fun v wx=>∃gc bc,v = .pointer (some ⟨gc,0,none⟩)∧Hid (w.heap.size≤gc∧w.heap.size≤bc∧Sat wx gc bc n (cut n (trs bs))∧Below w.heap.size w wx))
 case first=>
  go_region_with (first
   | (go_at_call 182;refine(HO.out _ (by exact(Below.refl _ _).drew)).mono ?_;rintro e w2 ⟨⟨p,q,c,rfl,hq,hY⟩,hb2⟩;have hw2:=Below.trans (Below.refl _ _).drew hb2;have l02:=(H.out.below hw2).c0)
   | (go_at_call 214;refine(fit_any n p q c bs _ HN.out (by omega) hY).mono ?_;rintro e w3 ⟨⟨gc,bc,rfl,hg,hb,hS⟩,hb3⟩;have hw3:=hw2.trans (Below.mono hb3 hw2.size)))
  all_goals go_wp2_with fail
  all_goals go_meet
  all_goals exact⟨gc,bc,rfl,Lib.hid ⟨Nat.le_trans hw2.size hg,Nat.le_trans hw2.size hb,hS,hw3⟩⟩
 case rest=>
 obtain⟨gc,bc,rfl,HC⟩:=hcut
 clear l0
 have hKS:=cut_sub n (trs bs)
 have HKS:=Lib.hid hKS
 clear hKS
 have hS0:=HC.out.2.2.1
 rw [←mix_zero true f (cut n (trs bs))] at hS0
 have HS0:=Lib.hid hS0
 have l1:=hS0.c1
 have HMB:=Lib.hid (need_le HN.out)
 have HMA:Hid (mix true f (cut n (trs bs)) (need n)=both true f (cut n (trs bs))):=Lib.hid (mix_all HSub.out HKS.out)
 have HNB:Hid (∀j,j<need n→j<need n):=Lib.hid fun _ h=>h
 obtain⟨m,hm⟩:∃m,Hid (need n=m):=⟨_,Lib.hid rfl⟩
 rw [hm.out] at l1
 clear hS0
 obtain⟨k,HKK⟩:∃k,Hid (cut n (trs bs)=k):=⟨_,Lib.hid rfl⟩
 rw [HKK.out] at HKS HS0 HMA
 go_wp2_with fail
 go_loopw [24,8,9] (fun iv _ _ wr=>∃j:Nat,j≤m∧iv = .int .i64 (j:Int)∧Hid (Sat wr gc bc n (mix true f k j)∧Below w.heap.size w wr)) (fun iv _ _ _=>m - (RowKit.intOf iv).toNat)
 case atStart=>exact⟨0,by omega,by go_num,Lib.hid ⟨HS0.out,HC.out.2.2.2⟩⟩
 case round=>
  obtain⟨j,hj,rfl,HR⟩:=hrel
  by_cases hlt:j<m
  ·have c1:=HR.out.1.c1
   have hjn:j<need n:=by rw [hm.out];exact hlt
   have cb:=HR.out.1.byte j hjn
   rw [mix_byt] at cb
   have s1:=(H.out.below HR.out.2).c1
   have sb:=(H.out.below HR.out.2).byte j hjn
   have fz:=HR.out.1.row.fz j
   have HBX:=Lib.hid (byt_lt f j)
   have HBY:=Lib.hid (byt_lt k j)
   have HJ:=Lib.hid (fun w=>or_any (byt f j) (byt k j) w HBX.out HBY.out)
   have HSJ:Hid (Sat (wr.setCell ⟨bc,j,none⟩ (.int .u8 ((byt f j ||| byt k j:Nat):Int))) gc bc n (mix true f k (j+1))):=Lib.hid (HR.out.1.setj HSub.out HKS.out)
   have HBJ:=Lib.hid (HR.out.2.setCell (p:=⟨bc,j,none⟩) HC.out.2.1 (.int .u8 ((byt f j ||| byt k j:Nat):Int)))
   have hjz:(j:Int)≤256:=by have:=HMB.out;omega
   rw [hm.out] at c1 s1
   have q1:gc≠bc:=HR.out.1.ne
   have q2:g≠bc:=by have:=H.out.glt;have:=HC.out.2.1;omega
   have q3:b≠bc:=by have:=H.out.blt;have:=HC.out.2.1;omega
   have q4:=Ne.symm q1
   have q5:=Ne.symm q2
   have q6:=Ne.symm q3
   clear hjn
   generalize (byt f j ||| byt k j:Nat)=z at *
   generalize byt f j=x at *
   generalize byt k j=y at *
   go_wp2_with fail
   go_region_held3 (fun w'=>w'.cell? ⟨gc,1,none⟩=some (.slice (some ⟨bc,0,none⟩) m m)∧w'.cell? ⟨g,1,none⟩=some (.slice (some ⟨b,0,none⟩) m m)∧w'.cell? ⟨b,j,none⟩=some (.int .u8 (x:Int)))
    (go_keep) ((((first | go_at_fn 236 | skip);refine(HJ.out _).mono ?_;rintro e w9 ⟨rfl,rfl⟩)))
   all_goals
    go_wp2_with fail
    go_roundw
    case rel=>exact⟨j+1,by omega,by go_num,Lib.hid ⟨HSJ.out.drew,HBJ.out.drew⟩⟩
    case measure=>simp [RowKit.intOf];omega
  ·obtain rfl:j=m:=by omega
   go_wp2_with fail
   go_ret
   have hS:=HR.out.1
   rw [←hm.out,HMA.out,←HKK.out] at hS
   exact⟨⟨gc,bc,rfl,HC.out.1,HC.out.2.1,hS⟩,HR.out.2⟩
end Bi
end
section
set_option maxRecDepth 20000
open Go.RowKit
theorem cut_trs_row {n m:Nat} {k:Nat→Bool} (hk:Bi.Sub m k):Bi.cut n (Bi.trs (Bi.rowF k (Bi.need m)))=Bi.cut n k:=by
 funext i
 unfold Bi.cut
 by_cases h:i<8*Bi.need m
 ·rw [Bi.trs_rowF h]
 ·rw [Bi.trs_far (by rw [Bi.rowF_len];omega),hk i (by unfold Bi.need at h;omega)]
def orB (f:Nat→Bool) (k:Option (Nat→Bool)):Nat→Bool:=fun i=>f i || (match k with | none=>false | some k=>k i)
theorem or_sp {w:World} {g b:Nat} {f:Nat→Bool} (h:Bi.Sat w g b 512 f) (p:Option Addr) (k:Option (Nat→Bool)) (hk:Stp w p k) :
  Calls Tryz.prog 204 #[.pointer (some ⟨g,0,none⟩),.pointer p] w fun e w'=>(∃g' b',e = .returned (.pointer (some ⟨g',0,none⟩))∧w.heap.size≤g'∧w.heap.size≤b'∧Bi.Sat w' g' b' 512 (orB f k))∧Below w.heap.size w w':=by
 have HW:Hid (Calls Tryz.prog 235 #[.pointer (some ⟨g,0,none⟩),.pointer p,.func (.func 236) #[] #[]] w fun e w'=>(∃g' b',e = .returned (.pointer (some ⟨g',0,none⟩))∧w.heap.size≤g'∧w.heap.size≤b'∧Bi.Sat w' g' b' 512 (orB f k))∧Below w.heap.size w w'):=Lib.hid (by
  cases k with
  | none=>
   have e:p=none:=hk
   subst e
   have H:=Bi.with_44 h (.pointer none) [] (Lib.hid fun w' _=>by
    refine(Bi.bytes_nil w').mono ?_
    rintro e w2 ⟨rfl,rfl⟩
    exact⟨⟨none,0,0,rfl,by omega,Bys.zero _ _⟩,Below.refl _ _⟩)
   have e2:Bi.both true f (Bi.cut 512 (Bi.trs []))=orB f none:=by
    rw [Bi.trs_nil,Bi.cut_false]
    funext i
    unfold Bi.both orB
    simp
   rwa [e2] at H
  | some k=>
   obtain⟨g2,b2,rfl,h2⟩:=hk
   have H:=Bi.with_44 h (.pointer (some ⟨g2,0,none⟩)) (Bi.rowF k (Bi.need 512)) (Lib.hid fun w' hb=>by
    refine(Bi.bytes_any (h2.below hb)).mono ?_
    rintro e w2 ⟨⟨p,c,rfl,hY⟩,hb2⟩
    exact⟨⟨p,Bi.need 512,c,rfl,by decide,hY⟩,hb2⟩)
   have e2:Bi.both true f (Bi.cut 512 (Bi.trs (Bi.rowF k (Bi.need 512))))=orB f (some k):=by
    rw [cut_trs_row h2.sub,Bi.cut_of h2.sub]
    funext i
    unfold Bi.both orB
    simp
   rwa [e2] at H)
 clear h hk
 go_enter Tryz.func204,Tryz.ntmps204
 go_wp2_with (go_at_call 235;refine HW.out.mono ?_;rintro e w7 ⟨⟨g',b',rfl,h1,h2,hS⟩,hb⟩)
 go_ret
 exact⟨⟨g',b',rfl,h1,h2,hS⟩,hb⟩
theorem undrew {B:Nat} {w w':World} (h:Below B w.drew w'):Below B w w':=⟨h.os,h.tape,h.output,h.size,h.block⟩
theorem Stp.drew {w:World} {p:Option Addr} {f:Option (Nat→Bool)} (hs:Stp w p f):Stp w.drew p f:=hs.below (Below.refl _ _).drew
def heldS (s:Sp):Nat→Bool:=orB (orB (fun _=>false) s.g.us) s.od
set_option maxHeartbeats 1600000 in
theorem held_any {w:World} {g d pt pk mb:Nat} {pu po:Option Addr} {s:Sp} (h:Spc0 w g d pt pk mb pu po s) :
  Calls Tryz.prog 169 #[.pointer (some ⟨g,0,none⟩)] w fun e w'=>(∃g' b',e = .returned (.pointer (some ⟨g',0,none⟩))∧w.heap.size≤g'∧w.heap.size≤b'∧Bi.Sat w' g' b' 512 (heldS s))∧Below w.heap.size w w':=by
 have HR:=Lib.hid (refusal_any h)
 have HU:=Lib.hid h.us
 have HO:=Lib.hid h.od
 have c10:=h.c10
 have c11:=h.c11
 have HG:=Lib.hid h.lts.1
 clear h
 unfold heldS
 generalize s.g.us=U at *
 generalize s.od=O at *
 go_enter Tryz.func169,Tryz.ntmps169
 go_upto_region 3 with (go_at_call 47;refine HR.out.mono ?_;rintro e w7 ⟨rfl,rfl⟩)
 go_region_with (first
  | (go_at_call 177;refine(noPages_any _).mono ?_;rintro e w1 ⟨⟨g1,b1,rfl,ha1,hb1,hS1⟩,hw1⟩;have d10:=(hw1.cell (p:=⟨g,10,none⟩) HG.out).trans c10;have d11:=(hw1.cell (p:=⟨g,11,none⟩) HG.out).trans c11)
  | (go_at_call_of 204 (Value.pointer pu);refine(or_sp hS1 pu U (HU.out.drew.below hw1)).mono ?_;rintro e w2 ⟨⟨g2,b2,rfl,ha2,hb2,hS2⟩,hw2⟩;have e11:=(hw2.cell (p:=⟨g,11,none⟩) (Nat.lt_of_lt_of_le HG.out hw1.size)).trans d11)
  | (go_at_call_of 204 (Value.pointer po);refine(or_sp hS2 po O ((HO.out.drew.below hw1).below hw2)).mono ?_;rintro e w3 ⟨⟨g3,b3,rfl,ha3,hb3,hS3⟩,hw3⟩))
 all_goals
  go_wp2_with fail
  go_ret
  exact⟨⟨g3,b3,rfl,Nat.le_trans hw1.size (Nat.le_trans hw2.size ha3),Nat.le_trans hw1.size (Nat.le_trans hw2.size hb3),hS3⟩,Below.more (Below.more (undrew hw1) hw2 hw1.size) hw3 (Nat.le_trans hw1.size hw2.size)⟩
end
section
set_option maxRecDepth 20000
open Go.RowKit
def hasS (s:Sp) (x:Int):Bool:=(s.fr.at_ x).isSome || !(Tb.getI s.kp x == 0)
section
variable {w:World} {g d pt pk mb:Nat} {pu po:Option Addr} {s:Sp}
theorem has_sp (h:Spc0 w g d pt pk mb pu po s) (x:Int) (h0:-9223372036854775808≤x) (h1:x≤9223372036854775807) :
  Calls Tryz.prog 48 #[.pointer (some ⟨g,0,none⟩),.int .i64 x] w fun e w'=>e = .returned (.bool (hasS s x))∧Below w.heap.size w w':=by
 have c13:=h.c13
 have HL:=h.map.look x h0 h1
 have HA:=Lib.hid (alloc_below w (.cells #[.string (strB ((s.fr.at_ x).getD []))] 134))
 have d12:=(h.below HA.out).c12
 have HG:=Lib.hid (Tb.get_any ((h.below HA.out).kep) x)
 have HE:Hid (hasS s x=((s.fr.at_ x).isSome || !(Tb.getI s.kp x == 0))):=Lib.hid rfl
 rw [HE.out]
 clear h h0 h1 HE
 generalize (s.fr.at_ x).isSome=b at *
 generalize strB ((s.fr.at_ x).getD [])=S at *
 generalize Tb.getI s.kp x=y at *
 go_enter Tryz.func48,Tryz.ntmps48
 cases b
 ·go_wp2_with (go_at_call 77;refine HG.out.mono ?_;rintro e w7 ⟨rfl,rfl⟩)
  go_ret
  exact⟨rfl,HA.out⟩
 ·go_wp2_with (go_at_call 77;refine HG.out.mono ?_;rintro e w7 ⟨rfl,rfl⟩)
  go_ret
  exact⟨rfl,HA.out⟩
def putS (s:Sp) (l:Nat) (b:List Nat):Sp:={ s with kp:=Tb.dropT s.kp (l:Int),fr:=s.fr.put l b,ch:=true }
theorem Spc0.nes (h:Spc0 w g d pt pk mb pu po s):g≠pt∧g≠pk∧g≠mb∧pt≠mb∧pk≠mb:=by
 have h2:=h.box
 have h3:=h.tab.row
 have h4:=h.kep.row
 obtain⟨es,c,hm⟩:=h.map.isMap
 unfold Tb.IsT at h3 h4
 refine⟨?_,?_,?_,?_,?_⟩ <;> intro e <;> subst e
 ·rw [h3] at h2;simp at h2
 ·rw [h4] at h2;simp at h2
 ·rw [hm] at h2;cases h2
 ·rw [hm] at h3;cases h3
 ·rw [hm] at h4;cases h4
theorem Kin.one {w:World} {A:List Nat} (h:Kin w A) {k:Nat} (hk:k∈A):Kin w [k]:=fun x hx=>by
 have e:x=k:=by simpa using hx
 rw [e];exact h k hk
theorem Spc0.setKep (h:Spc0 w g d pt pk mb pu po s) {w':World} {f:Nat→Nat} (hT:Tb.Tab w' pk f) (hO:Only pk w w'):Spc0 w' g d pt pk mb pu po { s with kp:=f }:=by
 obtain⟨n1,n2,n3,n4,n5⟩:=h.nes
 have hk:Kin w [pk]:=h.kin.one (by simp)
 exact⟨(hO.block g h.lts.1 n2).trans h.box,h.tab.only hO h.ne,hT,h.map.same (hO.block mb h.lts.2.2.2 (Ne.symm n5)),h.us.chg2 (Chg.of_only (G:=[pk]) hO (by simp)) hk,h.od.chg2 (Chg.of_only (G:=[pk]) hO (by simp)) hk,h.ne⟩
theorem Spc0.setMap (h:Spc0 w g d pt pk mb pu po s) {w':World} {f:Pgs} (hM:Frs w' mb f) (hO:Only mb w w'):Spc0 w' g d pt pk mb pu po { s with fr:=f }:=by
 obtain⟨n1,n2,n3,n4,n5⟩:=h.nes
 have hk:Kin w [mb]:=h.kin.one (by simp)
 exact⟨(hO.block g h.lts.1 n3).trans h.box,h.tab.only hO n4,h.kep.only hO n5,hM,h.us.chg2 (Chg.of_only (G:=[mb]) hO (by simp)) hk,h.od.chg2 (Chg.of_only (G:=[mb]) hO (by simp)) hk,h.ne⟩
theorem Spc0.setLast (h:Spc0 w g d pt pk mb pu po s) (b:Bool):Spc0 (w.setCell ⟨g,14,none⟩ (.bool b)) g d pt pk mb pu po { s with ch:=b }:=by
 obtain⟨n1,n2,n3,n4,n5⟩:=h.nes
 have hO:Only g w (w.setCell ⟨g,14,none⟩ (.bool b)):=Only.setCell g 14 _ w
 have hk:Kin w [g]:=h.kin.one (by simp)
 exact⟨heap_setCell_same w g 14 _ _ (.bool b) h.box,h.tab.only hO (Ne.symm n1),h.kep.only hO (Ne.symm n2),h.map.same (hO.block mb h.lts.2.2.2 (Ne.symm n3)),h.us.chg2 (Chg.of_only (G:=[g]) hO (by simp)) hk,h.od.chg2 (Chg.of_only (G:=[g]) hO (by simp)) hk,h.ne⟩
set_option maxHeartbeats 800000 in
theorem put_sp (h:Spc0 w g d pt pk mb pu po s) (l:Nat) (b:List Nat) (hl:l<512) :
  Calls Tryz.prog 49 #[.pointer (some ⟨g,0,none⟩),.int .i64 (l:Int),.string (strB b)] w fun e w'=>e = .returned (.tuple #[])∧Spc0 w' g d pt pk mb pu po (putS s l b)∧Chg [g,pt,pk,mb] [g,pt,pk,mb] w w':=by
 have c12:=h.c12
 have HD:=Lib.hid (Tb.drop_tab h.kep (l:Int))
 have HX:=Lib.hid h
 have HI:=Lib.hid hl
 clear h hl
 go_enter Tryz.func49,Tryz.ntmps49
 go_upto_region 1 with (go_at_call 92;refine HD.out.mono ?_;rintro e w1 ⟨rfl,hT1,hO1⟩)
 have HX1:=Lib.hid (HX.out.setKep hT1 hO1)
 have HC1:Hid (Chg [g,pt,pk,mb] [g,pt,pk,mb] w w1):=Lib.hid (Chg.of_only hO1 (by simp))
 have HM1:=Lib.hid HX1.out.map
 have d13:=HX1.out.c13
 clear c12 HD HX hT1 hO1
 go_upto_region 2 with (refine wpList_store_frs _ rfl _ _ _ rfl mb _ l b rfl HM1.out HI.out rfl rfl ?_;intro w2 hM2 hO2)
 have HX2:=Lib.hid (HX1.out.setMap hM2 hO2)
 have HC2:Hid (Chg [g,pt,pk,mb] [g,pt,pk,mb] w w2):=Lib.hid (HC1.out.trans (Chg.of_only hO2 (by simp)))
 have e14:=HX2.out.c14
 have f14:=HX2.out.fz 14
 have HX3:=Lib.hid (HX2.out.setLast true)
 have HC3:Hid (Chg [g,pt,pk,mb] [g,pt,pk,mb] w (w2.setCell ⟨g,14,none⟩ (.bool true))):=Lib.hid (HC2.out.trans (Chg.setCell (by simp) _ _))
 clear d13 HX1 HC1 HM1 hM2 hO2 HX2 HC2
 go_wp2_with fail
 go_end0
 exact⟨rfl,HX3.out,HC3.out⟩
end
end
end Go.Proofs.YtmbecjlioogbhaaGreatDoor
