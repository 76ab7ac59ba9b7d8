/- Texts Cyc to SMdl of this seat, laid into one. -/
import Derived.WalkKit
import Derived.Test.YtmbecjlioogbhaaGreatDoorProg
import Derived.WalkSpells
import Derived.WalkLawsBesides
import Derived.Laws.BitsAllLaws
import Derived.Laws.OwnMore
import Derived.Lib.Hide
import Derived.Lib.SlBytesConst
import Derived.Outline
import Derived.OneCell
import Derived.OwnWalk
import Derived.Laws.CopyOwn
import Derived.Laws.BytesArg
import Derived.WideShapes
import Derived.Maps.AppendAt
import Derived.Lib.Strings
import Derived.Deep.QuietTactic
import Derived.BigQuiet
import Derived.Laws.Rows
set_option linter.unusedVariables false
set_option linter.unusedSimpArgs false
set_option linter.constructorNameAsVariable false
namespace Go.Proofs.YtmbecjlioogbhaaGreatDoor
section
def poly:Nat:=3988292384
def full:Nat:=4294967295
def stp (r:Nat):Nat:=if r % 2=1 then (r / 2) ^^^ poly else r / 2
def stps:Nat→Nat→Nat
 | 0,r=>r
 | n+1,r=>stps n (stp r)
def eat (r c:Nat):Nat:=stps 8 (r ^^^ c)
def eats (r:Nat) (bs:List Nat):Nat:=bs.foldl eat r
def more (s:Nat) (bs:List Nat):Nat:=full ^^^ eats (full ^^^ s) bs
theorem xor_lt {a b:Nat} (ha:a<4294967296) (hb:b<4294967296):a ^^^ b<4294967296:=Nat.xor_lt_two_pow (n:=32) ha hb
theorem stp_lt {r:Nat} (h:r<4294967296):stp r<4294967296:=by
 unfold stp
 split
 ·exact xor_lt (by omega) (by unfold poly;omega)
 ·omega
theorem stps_lt (n:Nat) {r:Nat} (h:r<4294967296):stps n r<4294967296:=by
 induction n generalizing r with
 | zero=>exact h
 | succ n ih=>exact ih (stp_lt h)
theorem eats_append (r:Nat) (a b:List Nat):eats r (a++b)=eats (eats r a) b:=List.foldl_append ..
theorem eat_lt {r c:Nat} (h:r<4294967296) (hc:c<256):eat r c<4294967296:=stps_lt 8 (xor_lt h (by omega))
theorem eats_lt {r:Nat} {bs:List Nat} (h:r<4294967296) (hb:∀x∈bs,x<256):eats r bs<4294967296:=by
 induction bs generalizing r with
 | nil=>exact h
 | cons c bs ih=>exact ih (eat_lt h (hb c (by simp))) fun x hx=>hb x (by simp [hx])
theorem more_lt {s:Nat} {bs:List Nat} (h:s<4294967296) (hb:∀x∈bs,x<256):more s bs<4294967296:=
 xor_lt (by decide) (eats_lt (xor_lt (by decide) h) hb)
theorem more_nil (s:Nat):more s []=s:=by
 show full ^^^ (full ^^^ s)=s
 rw [←Nat.xor_assoc,Nat.xor_self,Nat.zero_xor]
def tailOf (s:Nat):List Nat:=[s % 256,s / 256 % 256,s / 65536 % 256,s / 16777216 % 256]
theorem tail_len (s:Nat):(tailOf s).length=4:=rfl
end
section
def be:Nat→Nat→List Nat
 | 0,_=>[]
 | k+1,n=>be k (n / 256)++[n % 256]
theorem be_len (k n:Nat):(be k n).length=k:=by
 induction k generalizing n with
 | zero=>rfl
 | succ k ih=>show (be k (n / 256)++[n % 256]).length=_;rw [List.length_append,ih];rfl
theorem be_dig (k n:Nat):∀x∈be k n,x<256:=by
 induction k generalizing n with
 | zero=>intro x hx;cases hx
 | succ k ih=>
  intro x hx
  rcases List.mem_append.1 hx with h | h
  ·exact ih _ x h
  ·rw [List.mem_singleton.1 h];exact Nat.mod_lt _ (by omega)
theorem be_get (k n i:Nat) (h:i<k):(be k n).getD i 0=n / 256 ^ (k - 1 - i) % 256:=by
 induction k generalizing n with
 | zero=>exact absurd h (Nat.not_lt_zero _)
 | succ k ih=>
  show (be k (n / 256)++[n % 256]).getD i 0=_
  rw [List.getD_eq_getElem?_getD]
  by_cases hi:i<k
  ·rw [List.getElem?_append_left (by rw [be_len];exact hi),←List.getD_eq_getElem?_getD,ih _ hi,Nat.div_div_eq_div_mul,←Nat.pow_succ']
   congr 3;omega
  ·obtain rfl:i=k:=by omega
   rw [List.getElem?_append_right (by rw [be_len];exact Nat.le_refl _),be_len,Nat.sub_self,show i+1 - 1 - i=0 by omega,Nat.pow_zero,Nat.div_one]
   rfl
def val (bs:List Nat):Nat:=bs.foldl (fun n b=>n*256+b) 0
theorem val_snoc (bs:List Nat) (b:Nat):val (bs++[b])=val bs*256+b:=by unfold val;rw [List.foldl_append];rfl
theorem val_be (k n:Nat) (h:n<256 ^ k):val (be k n)=n:=by
 induction k generalizing n with
 | zero=>rw [Nat.pow_zero] at h;show 0=n;omega
 | succ k ih=>
  show val (be k (n / 256)++[n % 256])=n
  rw [val_snoc,ih _ (by rw [Nat.pow_succ] at h;exact Nat.div_lt_of_lt_mul (by rw [Nat.mul_comm];exact h))]
  omega
theorem val_lt (bs:List Nat) (h:∀x∈bs,x<256):val bs<256 ^ bs.length:=by
 suffices ∀(r:List Nat),(∀x∈r,x<256)→val r.reverse<256 ^ r.length by
  have:=this bs.reverse (fun x hx=>h x (List.mem_reverse.1 hx))
  rwa [List.reverse_reverse,List.length_reverse] at this
 intro r
 induction r with
 | nil=>intro _;show 0<256 ^ 0;omega
 | cons a r ih=>
  intro hd
  rw [List.reverse_cons,val_snoc,List.length_cons,Nat.pow_succ]
  have h1:=ih (fun x hx=>hd x (by simp [hx]))
  have h2:=hd a (by simp)
  omega
theorem be_inj {k n m:Nat} (hn:n<256 ^ k) (hm:m<256 ^ k) (h:be k n=be k m):n=m:=by
 rw [←val_be k n hn,←val_be k m hm,h]
theorem be_zero (k:Nat):be k 0=List.replicate k 0:=by
 induction k with
 | zero=>rfl
 | succ k ih=>show be k (0 / 256)++[0 % 256]=_;rw [show 0 / 256=0 from rfl,ih,List.replicate_succ']
end
section
structure Rt where
 ep:Int
 pg:Int
 dr:Int
 wd:Int
def Rt.none_:Rt:=⟨0,0,0,0⟩
def mayE (e:Int):Bool:=decide (1≤e) && decide (e≤4611686018427387904)
def may (r:Rt):Bool:=
 mayE r.ep && decide (4≤r.pg) && decide (r.pg≤512) && decide (2≤r.dr) && decide (r.dr<r.pg) && decide (0≤r.wd) && decide (r.wd≤2147483647)
structure Mays (r:Rt):Prop where
 e0:1≤r.ep
 e1:r.ep≤4611686018427387904
 p0:4≤r.pg
 p1:r.pg≤512
 d0:2≤r.dr
 d1:r.dr<r.pg
 w0:0≤r.wd
 w1:r.wd≤2147483647
theorem may_yes {r:Rt} (h:may r=true):Mays r:=by
 unfold may mayE at h
 simp only [Bool.and_eq_true,decide_eq_true_eq] at h
 exact⟨h.1.1.1.1.1.1.1,h.1.1.1.1.1.1.2,h.1.1.1.1.1.2,h.1.1.1.1.2,h.1.1.1.2,h.1.1.2,h.1.2,h.2⟩
theorem Mays.may {r:Rt} (h:Mays r):Go.Proofs.YtmbecjlioogbhaaGreatDoor.may r=true:=by
 unfold Go.Proofs.YtmbecjlioogbhaaGreatDoor.may mayE
 simp only [Bool.and_eq_true,decide_eq_true_eq]
 exact⟨⟨⟨⟨⟨⟨⟨h.e0,h.e1⟩,h.p0⟩,h.p1⟩,h.d0⟩,h.d1⟩,h.w0⟩,h.w1⟩
def place (e:Int):Int:=if mayE e=true then (if e % 2=1 then 4 else 0) else -1
def nameB:List Nat:=[72,73,66,82]
def body (r:Rt):List Nat:=be 8 r.ep.toNat++(nameB++(be 4 r.pg.toNat++(be 4 r.dr.toNat++(be 4 r.wd.toNat++List.replicate 92 0))))
def sealedB (r:Rt):List Nat:=body r++tailOf (more 0 (body r))
def block (r:Rt):List Nat:=sealedB r++be 8 r.ep.toNat
theorem body_len (r:Rt):(body r).length=116:=by unfold body nameB;simp [be_len]
theorem sealed_len (r:Rt):(sealedB r).length=120:=by unfold sealedB;rw [List.length_append,body_len,tail_len]
theorem block_len (r:Rt):(block r).length=128:=by unfold block;rw [List.length_append,sealed_len,be_len]
theorem dig_app {a b:List Nat} (ha:∀x∈a,x<256) (hb:∀x∈b,x<256):∀x∈a++b,x<256:=fun x hx=>(List.mem_append.1 hx).elim (ha x) (hb x)
theorem dig_zeros (k:Nat):∀x∈List.replicate k 0,x<256:=fun x hx=>by rw [(List.mem_replicate.1 hx).2];omega
theorem body_dig (r:Rt):∀x∈body r,x<256:=
 dig_app (be_dig _ _) (dig_app (by unfold nameB;decide) (dig_app (be_dig _ _) (dig_app (be_dig _ _) (dig_app (be_dig _ _) (dig_zeros 92)))))
theorem tail_dig (s:Nat):∀x∈tailOf s,x<256:=by intro x hx;simp [tailOf] at hx;omega
theorem sealed_dig (r:Rt):∀x∈sealedB r,x<256:=dig_app (body_dig r) (tail_dig _)
theorem block_dig (r:Rt):∀x∈block r,x<256:=dig_app (sealed_dig r) (be_dig _ _)
theorem take_app (a b:List Nat) {k:Nat} (h:a.length=k):(a++b).take k=a:=by
 rw [List.take_append_of_le_length (by omega),List.take_of_length_le (by omega)]
theorem drop_app (a b:List Nat) {k:Nat} (h:a.length=k) (j:Nat):(a++b).drop (k+j)=b.drop j:=by
 rw [←h,List.drop_append,List.drop_eq_nil_of_le (by omega),List.nil_append]
 congr 1;omega
theorem drop_app0 (a b:List Nat) {k:Nat} (h:a.length=k):(a++b).drop k=b:=by
 have:=drop_app a b h 0
 simpa using this
theorem block_eq (r:Rt):block r=be 8 r.ep.toNat++(nameB++(be 4 r.pg.toNat++(be 4 r.dr.toNat++(be 4 r.wd.toNat++(List.replicate 92 0++(tailOf (more 0 (body r))++be 8 r.ep.toNat)))))):=by
 unfold block sealedB
 conv=>lhs;unfold body
 simp only [List.append_assoc]
 rfl
theorem block_first (r:Rt):(block r).take 8=be 8 r.ep.toNat:=by rw [block_eq];exact take_app _ _ (be_len _ _)
theorem block_last (r:Rt):(block r).drop 120=be 8 r.ep.toNat:=by unfold block;exact drop_app0 _ _ (sealed_len r)
theorem block_12 (r:Rt):(block r).drop 12=be 4 r.pg.toNat++(be 4 r.dr.toNat++(be 4 r.wd.toNat++(List.replicate 92 0++(tailOf (more 0 (body r))++be 8 r.ep.toNat)))):=by
 rw [block_eq,show 12=8+4 from rfl,drop_app _ _ (be_len _ _),drop_app0 nameB _ (k:=4) rfl]
theorem block_16 (r:Rt):(block r).drop 16=be 4 r.dr.toNat++(be 4 r.wd.toNat++(List.replicate 92 0++(tailOf (more 0 (body r))++be 8 r.ep.toNat))):=by
 rw [show 16=12+4 from rfl,←List.drop_drop,block_12,drop_app0 _ _ (be_len _ _)]
theorem block_20 (r:Rt):(block r).drop 20=be 4 r.wd.toNat++(List.replicate 92 0++(tailOf (more 0 (body r))++be 8 r.ep.toNat)):=by
 rw [show 20=16+4 from rfl,←List.drop_drop,block_16,drop_app0 _ _ (be_len _ _)]
def told (s:List Nat):Rt:=⟨(val (s.take 8):Int),(val ((s.drop 12).take 4):Int),(val ((s.drop 16).take 4):Int),(val ((s.drop 20).take 4):Int)⟩
theorem told_block {r:Rt} (h:Mays r):told (block r)=r:=by
 obtain⟨h1,h2,h3,h4,h5,h6,h7,h8⟩:=h
 unfold told
 rw [block_first,block_12,block_16,block_20,take_app _ _ (be_len _ _),take_app _ _ (be_len _ _),take_app _ _ (be_len _ _),
  val_be 8 _ (by omega),val_be 4 _ (by omega),val_be 4 _ (by omega),val_be 4 _ (by omega)]
 cases r
 simp only [Rt.mk.injEq] at *
 omega
def zs128:List Nat:=List.replicate 128 0
def decE (s:List Nat):Int:=
 if s.length≠128 then 1 else if s=zs128 then 5 else if s.take 8≠s.drop 120 then 4 else if may (told s)=false then 13 else if block (told s)≠s then 13 else 0
def decR (s:List Nat):Rt:=if decE s=0 then told s else Rt.none_
theorem be8_ne {e:Int} (h1:1≤e) (h2:e≤4611686018427387904):be 8 e.toNat≠List.replicate 8 0:=by
 intro h
 rw [←be_zero] at h
 have:=be_inj (k:=8) (by omega) (by omega) h
 omega
theorem block_ne {r:Rt} (h:Mays r):block r≠zs128:=by
 intro he
 have h1:=congrArg (List.take 8) he
 rw [block_first] at h1
 exact be8_ne h.e0 h.e1 h1
theorem decE_block {r:Rt} (h:Mays r):decE (block r)=0:=by
 unfold decE
 rw [if_neg (by rw [block_len];simp),if_neg (block_ne h),if_neg (by rw [block_first,block_last];simp),told_block h,if_neg (by rw [h.may];simp),if_neg (by simp)]
theorem decR_block {r:Rt} (h:Mays r):decR (block r)=r:=by unfold decR;rw [if_pos (decE_block h),told_block h]
theorem dec_ok {s:List Nat} (h:decE s=0):Mays (told s)∧block (told s)=s∧decR s=told s∧s.length=128:=by
 refine⟨?_,?_,by unfold decR;rw [if_pos h],?_⟩
 all_goals
  unfold decE at h
  split at h
  ·cases h
  ·split at h
   ·cases h
   ·split at h
    ·cases h
    ·split at h
     ·cases h
     ·rename_i h4
      split at h
      ·cases h
      ·rename_i h1 _ _ h5
       first
        | exact may_yes (by simpa using h4)
        | exact Classical.not_not.1 h5
        | exact Classical.not_not.1 h1
theorem decR_no {s:List Nat} (h:decE s≠0):decR s=Rt.none_:=by unfold decR;rw [if_neg h]
theorem dec_other {s:List Nat} {r:Rt} (h1:s.length=128) (h2:s≠zs128) (h3:s.take 8=s.drop 120) (hr:r=told s∨(may r=false∧may (told s)=false)) :
  (may r=false→decE s=13)∧(may r=true→block r≠s→decE s=13)∧(may r=true→block r=s→decE s=0∧decR s=r):=by
 have hE:decE s=if may (told s)=false then 13 else if block (told s)≠s then 13 else 0:=by
  conv=>lhs;unfold decE
  rw [if_neg (by simp [h1]),if_neg h2,if_neg (by simp [h3])]
 rcases hr with rfl | ⟨ha,hb⟩
 ·refine⟨fun h=>by rw [hE,if_pos h],fun h hb=>by rw [hE,if_neg (by simp [h]),if_pos hb],fun h hb=>?_⟩
  have:decE s=0:=by rw [hE,if_neg (by simp [h]),if_neg (by simp [hb])]
  exact⟨this,by unfold decR;rw [if_pos this]⟩
 ·exact⟨fun _=>by rw [hE,if_pos hb],fun h _=>(by rw [ha] at h;cases h),fun h _=>(by rw [ha] at h;cases h)⟩
def plE (s:List Nat) (k:Int):Int:=if decE s=0∧place (decR s).ep≠k then 13 else decE s
def plR (s:List Nat) (k:Int):Rt:=if decE s=0∧place (decR s).ep≠k then Rt.none_ else decR s
theorem pl_ok {s:List Nat} {k:Int} (h:plE s k=0):decE s=0∧place (decR s).ep=k∧plR s k=decR s∧Mays (plR s k):=by
 unfold plE at h
 split at h
 ·cases h
 ·rename_i h1
  have h2:place (decR s).ep=k:=Classical.byContradiction fun e=>h1 ⟨h,e⟩
  have h3:plR s k=decR s:=by unfold plR;rw [if_neg h1]
  refine⟨h,h2,h3,?_⟩
  rw [h3,(dec_ok h).2.2.1]
  exact(dec_ok h).1
theorem pl_no {s:List Nat} {k:Int} (h:plE s k≠0):plR s k=Rt.none_:=by
 unfold plE at h
 unfold plR
 split
 ·rfl
 ·rename_i h1
  rw [if_neg h1] at h
  exact decR_no h
theorem place_mays {r:Rt} (h:Mays r):place r.ep=if r.ep % 2=1 then 4 else 0:=by
 unfold place;rw [if_pos];unfold mayE;simp [h.e0,h.e1]
theorem pl_even {s:List Nat} (h:plE s 0=0):(plR s 0).ep % 2=0:=by
 obtain⟨h1,h2,h3,h4⟩:=pl_ok h
 rw [←h3,place_mays h4] at h2
 split at h2
 ·cases h2
 ·omega
theorem pl_odd {s:List Nat} (h:plE s 4=0):(plR s 4).ep % 2=1:=by
 obtain⟨h1,h2,h3,h4⟩:=pl_ok h
 rw [←h3,place_mays h4] at h2
 split at h2
 ·assumption
 ·cases h2
def withE (e f:Int):Int:=if (e=5∧f=5)∨(e=5∧f=4)∨(e=4∧f=5) then 5 else 13
def nwE (a b:List Nat):Int:=if plE a 0=1∨plE b 4=1 then 1 else if plE a 0=0∨plE b 4=0 then 0 else withE (plE a 0) (plE b 4)
def first_ (a b:List Nat):Prop:=plE a 0=0∧(plE b 4≠0∨(plR b 4).ep<(plR a 0).ep)
instance (a b:List Nat):Decidable (first_ a b):=by unfold first_;infer_instance
def pre (x y:Rt):Rt:=if y.ep=x.ep - 1 then y else Rt.none_
def nwA (a b:List Nat):Rt:=if nwE a b=0 then (if first_ a b then plR a 0 else plR b 4) else Rt.none_
def nwB (a b:List Nat):Rt:=if nwE a b=0 then (if first_ a b then pre (plR a 0) (plR b 4) else pre (plR b 4) (plR a 0)) else Rt.none_
end
section
open Go.RowKit
structure Bys (w:World) (p:Option Addr) (n:Nat) (bs:List Nat):Prop where
 len:bs.length=n
 dig:∀x∈bs,x<256
 inn:0<n→∃b o,p=some ⟨b,o,none⟩∧∀i,i<n→w.cell? ⟨b,o+i,none⟩=some (.int .u8 ((bs.getD i 0:Nat):Int))
theorem Bys.keep {w w':World} {p:Option Addr} {n:Nat} {bs:List Nat} (h:Bys w p n bs) (hb:∀a:Addr,a.block<w.heap.size→w'.cell? a=w.cell? a):Bys w' p n bs:=
 ⟨h.len,h.dig,fun hn=>by
  obtain⟨b,o,e,hc⟩:=h.inn hn
  exact⟨b,o,e,fun i hi=>(hb ⟨b,o+i,none⟩ (World.block_lt_of_cell? w _ (hc i hi))).trans (hc i hi)⟩⟩
theorem Bys.below {w w':World} {p:Option Addr} {n:Nat} {bs:List Nat} (h:Bys w p n bs) (hb:Below w.heap.size w w'):Bys w' p n bs:=h.keep fun _ ha=>hb.cell ha
theorem map_getD (bs:List Nat) (i:Nat):(bs.map Int.ofNat).getD i 0=((bs.getD i 0:Nat):Int):=by
 rw [List.getD_eq_getElem?_getD,List.getD_eq_getElem?_getD,List.getElem?_map]
 cases bs[i]? <;> rfl
theorem Bys.at {w:World} {p:Option Addr} {n:Nat} {bs:List Nat} (h:Bys w p n bs) (hn:0<n) :
  ∃b o,p=some ⟨b,o,none⟩∧∀i,i<n→w.cell? ⟨b,o+i,none⟩=some (.int .u8 ((bs.getD i 0:Nat):Int)):=h.inn hn
theorem Bys.zero (w:World) (p:Option Addr):Bys w p 0 []:=⟨rfl,by simp,fun h=>absurd h (Nat.lt_irrefl 0)⟩
theorem Bys.nil_ {w:World} {p:Option Addr} {bs:List Nat} (h:Bys w p 0 bs):bs=[]:=List.length_eq_zero_iff.1 h.len
theorem Bys.getD {w:World} {p:Option Addr} {n:Nat} {bs:List Nat} (h:Bys w p n bs) (i:Nat):bs.getD i 0<256:=by
 rw [List.getD_eq_getElem?_getD]
 cases e:bs[i]? with
 | none=>decide
 | some x=>exact h.dig x (List.mem_of_getElem? e)
theorem take_succ_getD (a:List Nat) (k:Nat) (h:k<a.length):a.take (k+1)=a.take k++[a.getD k 0]:=by
 rw [List.take_succ_eq_append_getElem h,List.getD_eq_getElem?_getD,List.getElem?_eq_getElem h];rfl
def u8s (bs:List Nat):List Value:=bs.map fun (x:Nat)=>Value.int .u8 (x:Int)
theorem u8s_get (bs:List Nat) (i:Nat) (h:i<bs.length):(u8s bs)[i]?=some (.int .u8 ((bs.getD i 0:Nat):Int)):=by
 unfold u8s
 rw [List.getElem?_map,List.getD_eq_getElem?_getD,List.getElem?_eq_getElem h];rfl
theorem u8s_len (bs:List Nat):(u8s bs).length=bs.length:=by unfold u8s;simp
theorem u8s_append (a b:List Nat):u8s (a++b)=u8s a++u8s b:=List.map_append
theorem u8s_one (bs:List Nat):∀v∈u8s bs,v.oneCell'=true:=by
 intro v hv
 obtain⟨x,_,rfl⟩:=List.mem_map.1 hv
 rfl
theorem Bys.of_row {w:World} {base g n c:Nat} {bs:List Nat} (h:w.ownsRow base 5 1 (.slice (some ⟨g,0,none⟩) n c) n (u8s bs)) (hb:∀x∈bs,x<256):Bys w (some ⟨g,0,none⟩) n bs:=by
 have hl:bs.length=n:=by have:=h.1;rw [u8s_len] at this;omega
 refine⟨hl,hb,fun _=>⟨g,0,rfl,fun i hi=>?_⟩⟩
 have h2:=World.ownsRow.cells (h:w.ownsRow base 5 1 _ n (u8s bs)) (g:=g) rfl i _ (u8s_get bs i (by omega))
 rw [←Go.WideShapes.add_plain]
 exact h2
theorem Bys.own {w:World} {base n c:Nat} {p:Option Addr} {bs:List Nat} (h:w.ownsRow base 5 1 (.slice p n c) n (u8s bs)) (hb:∀x∈bs,x<256):Bys w p n bs:=by
 have hl:bs.length=n:=by have:=h.1;rw [u8s_len] at this;omega
 rcases h.2 with ⟨h0,h1⟩ | ⟨g,cap,cur,e,_⟩
 ·subst h1
  exact⟨hl,hb,fun h=>absurd h (Nat.lt_irrefl 0)⟩
 ·cases e
  exact Bys.of_row h hb
theorem Tryz.info5:(Tryz.prog.info? 5).map (fun i=>(i.zero,i.size,i.bytes))=some (some (.int .u8 0),1,1):=by kernel_rfl
theorem Bys.cells {w:World} {p:Option Addr} {n:Nat} {bs:List Nat} (h:Bys w p n bs) (hn:0<n):∃ad,p=some ad∧∀j v,(u8s bs)[j]?=some v→w.cell? (ad.add j)=some v:=by
 obtain⟨b,o,e,hc⟩:=h.at hn
 refine⟨_,e,fun j v hv=>?_⟩
 have hj:j<bs.length:=by
  rcases Nat.lt_or_ge j bs.length with h1 | h1
  ·exact h1
  ·rw [List.getElem?_eq_none (by rw [u8s_len];exact h1)] at hv;cases hv
 rw [u8s_get bs j hj] at hv
 cases hv
 rw [Go.WideShapes.add_plain]
 exact hc j (by rw [←h.len];exact hj)
theorem own_below {w w':World} {base E m:Nat} {v:Value} {n:Nat} {xs:List Value} (h:w.ownsRow base E m v n xs) (hb:Below w.heap.size w w'):w'.ownsRow base E m v n xs:=by
 obtain⟨h1,h2⟩:=h
 refine⟨h1,?_⟩
 rcases h2 with h2 | ⟨g,cap,cur,e,hbg,hg,hr⟩
 ·exact .inl h2
 ·exact .inr ⟨g,cap,cur,e,hbg,(hb.block g (by
   rcases Nat.lt_or_ge g w.heap.size with h3 | h3
   ·exact h3
   ·rw [Array.getElem?_eq_none h3] at hg;cases hg)).trans hg,hr⟩
theorem own_slice {w:World} {base n:Nat} {v:Value} {xs:List Value} (h:w.ownsRow base 5 1 v n xs):∃p c,v = .slice p n c:=by
 rcases h.2 with ⟨h0,h1⟩ | ⟨g,cap,cur,e,_⟩
 ·subst h1;exact⟨none,0,h0⟩
 ·exact⟨_,_,e⟩
theorem getD_take (a:List Nat) (k i:Nat) (h:i<k):(a.take k).getD i 0=a.getD i 0:=by
 rw [List.getD_eq_getElem?_getD,List.getD_eq_getElem?_getD,List.getElem?_take_of_lt h]
theorem getD_drop (a:List Nat) (k i:Nat):(a.drop k).getD i 0=a.getD (k+i) 0:=by
 rw [List.getD_eq_getElem?_getD,List.getD_eq_getElem?_getD,List.getElem?_drop]
theorem Bys.take {w:World} {p:Option Addr} {n:Nat} {bs:List Nat} (h:Bys w p n bs) {k:Nat} (hk:k≤n):Bys w p k (bs.take k):=
 ⟨by rw [List.length_take,h.len];omega,fun x hx=>h.dig x (List.mem_of_mem_take hx),fun hn=>by
  obtain⟨b,o,e,hc⟩:=h.at (by omega)
  exact⟨b,o,e,fun i hi=>by rw [hc i (by omega),getD_take _ _ _ hi]⟩⟩
theorem Bys.drop {w:World} {b o n:Nat} {bs:List Nat} (h:Bys w (some ⟨b,o,none⟩) n bs) {k j:Nat} (hk:k+j=n):Bys w (some ⟨b,o+k,none⟩) j (bs.drop k):=
 ⟨by rw [List.length_drop,h.len];omega,fun x hx=>h.dig x (List.mem_of_mem_drop hx),fun hn=>by
  obtain⟨b2,o2,e,hc⟩:=h.at (by omega)
  cases e
  exact⟨b,o+k,rfl,fun i hi=>by rw [Nat.add_assoc,hc (k+i) (by omega),getD_drop]⟩⟩
theorem dig_append {a b:List Nat} (ha:∀x∈a,x<256) (hb:∀x∈b,x<256):∀x∈a++b,x<256:=fun x hx=>(List.mem_append.1 hx).elim (ha x) (hb x)
def strB (bs:List Nat):ByteArray:=strOfNums (bs.map Int.ofNat)
theorem strB_inj {xs ys:List Nat} (hx:∀x∈xs,x<256) (hy:∀x∈ys,x<256) (h:(strB xs).data.toList=(strB ys).data.toList):xs=ys:=by
 unfold strB at h
 rw [strOfNums_data,strOfNums_data] at h
 induction xs generalizing ys with
 | nil=>cases ys with
  | nil=>rfl
  | cons y ys=>simp at h
 | cons x xs ih=>cases ys with
  | nil=>simp at h
  | cons y ys=>
   simp only [List.map_cons,List.cons.injEq] at h
   have h1:=congrArg UInt8.toNat h.1
   have hx1:=hx x (by simp)
   have hy1:=hy y (by simp)
   have e:x=y:=by simpa [Nat.mod_eq_of_lt hx1,Nat.mod_eq_of_lt hy1] using h1
   rw [e,ih (fun z hz=>hx z (by simp [hz])) (fun z hz=>hy z (by simp [hz])) h.2]
theorem Bys.conv {w:World} {p:Option Addr} {n:Nat} {bs:List Nat} (h:Bys w p n bs) (c:Nat) :
  (convert 71 9 (.slice p n c)).run Tryz.prog w = .ok (.string (strB bs)) w:=by
 have hl:(bs.map Int.ofNat).length=n:=by rw [List.length_map,h.len]
 unfold strB
 rcases Nat.eq_zero_or_pos n with hn | hn
 ·subst hn
  rw [List.eq_nil_of_length_eq_zero hl,run_convert_bytes_string w 71 9 5 p 0 c Tryz.underlying71 Tryz.underlying5 Tryz.underlying9]
  cases p with
  | none=>simp [Conv.bytesToString];rfl
  | some a=>simp [Conv.bytesToString,loadCells];rfl
 ·obtain⟨b,o,rfl,hc⟩:=h.at hn
  exact run_convert_bytes_arg (P:=Tryz.prog) w 71 5 Tryz.underlying71 Tryz.underlying5 b o n c _ hl (fun i hi=>by rw [hc i hi,map_getD]) 9 Tryz.underlying9
theorem Bys.lt {w:World} {p:Option Addr} {n:Nat} {bs:List Nat} (h:Bys w p n bs) (hn:0<n):∀b o,p=some ⟨b,o,none⟩→b<w.heap.size:=by
 intro b0 o0 e
 obtain⟨b,o,e2,hc⟩:=h.inn hn
 rw [e] at e2
 cases e2
 exact World.block_lt_of_cell? w _ (hc 0 hn)
theorem one_cells (w:World) (x:Value) (t:TypeId):∀(j:Nat) (u:Value),[x][j]?=some u→(w.alloc (.cells #[x] t)).cell? ((⟨w.heap.size,0,none⟩:Addr).add j)=some u:=cell_one_new w x t
end
section
open Go.RowKit
theorem strB_list (s:List Nat):(strB s).data.toList=s.map fun x=>UInt8.ofNat x:=by
 unfold strB
 rw [strOfNums_data,List.map_map]
 apply List.map_congr_left
 intro x _
 simp
structure IsS (S:ByteArray) (s:List Nat):Prop where
 eq:S=strB s
 dig:∀x∈s,x<256
theorem list_eq {S T:ByteArray} (h:S.data.toList=T.data.toList):S=T:=by
 apply ByteArray.ext
 exact Array.ext' h
theorem IsS.list {S:ByteArray} {s:List Nat} (h:IsS S s):S.data.toList=s.map fun x=>UInt8.ofNat x:=by rw [h.eq,strB_list]
theorem IsS.of_list {S:ByteArray} {s:List Nat} (h:S.data.toList=s.map fun x=>UInt8.ofNat x) (hd:∀x∈s,x<256):IsS S s:=⟨list_eq (by rw [h,strB_list]),hd⟩
theorem IsS.size {S:ByteArray} {s:List Nat} (h:IsS S s):S.size=s.length:=by
 have:=congrArg List.length h.list
 rw [List.length_map,Array.length_toList] at this
 exact this
theorem IsS.lit {S:ByteArray} (s:List Nat) (h:S.data.toList=s.map fun x=>UInt8.ofNat x) (hd:∀x∈s,x<256):IsS S s:=IsS.of_list h hd
theorem IsS.mk_ (s:List Nat) (hd:∀x∈s,x<256):IsS (strB s) s:=⟨rfl,hd⟩
theorem IsS.app {S T:ByteArray} {s t:List Nat} (h:IsS S s) (k:IsS T t):IsS (S++T) (s++t):=
 IsS.of_list (by rw [ByteArray.data_append,Array.toList_append,h.list,k.list,List.map_append]) (dig_append h.dig k.dig)
theorem IsS.ext {S:ByteArray} {s:List Nat} (h:IsS S s) (a b:Nat):IsS (S.extract a b) ((s.drop a).take (b - a)):=by
 refine IsS.of_list ?_ (fun x hx=>h.dig x (List.mem_of_mem_drop (List.mem_of_mem_take hx)))
 rw [ByteArray.data_extract,Array.toList_extract,List.extract_eq_take_drop,h.list,List.map_take,List.map_drop]
theorem IsS.at {S:ByteArray} {s:List Nat} (h:IsS S s) (i:Nat) (hi:i<S.size):(S[i]'hi).toNat=s.getD i 0:=by
 have hs:=h.size
 have e:S[i]'hi=S.data.toList[i]'(by rw [Array.length_toList];exact hi):=rfl
 rw [e]
 have h2:s[i]?=some (s[i]'(by omega)):=List.getElem?_eq_getElem (by omega)
 have h3:S.data.toList[i]?=some (UInt8.ofNat (s[i]'(by omega))):=by rw [h.list,List.getElem?_map,h2];rfl
 rw [List.getElem?_eq_getElem (by rw [Array.length_toList];exact hi)] at h3
 rw [Option.some.inj h3,List.getD_eq_getElem?_getD,h2]
 show (UInt8.ofNat (s[i]'(by omega))).toNat=s[i]'(by omega)
 rw [UInt8.toNat_ofNat']
 exact Nat.mod_eq_of_lt (h.dig _ (List.getElem_mem _))
theorem IsS.inj {S:ByteArray} {s t:List Nat} (h:IsS S s) (k:IsS S t):s=t:=by
 refine strB_inj h.dig k.dig ?_
 rw [←h.eq,←k.eq]
theorem IsS.eqT {S T:ByteArray} {s t:List Nat} (h:IsS S s) (k:IsS T t):S=T↔s=t:=by
 constructor
 ·intro e;subst e;exact h.inj k
 ·intro e;subst e;rw [h.eq,k.eq]
theorem toList_eq_iff {S T:ByteArray}:S.toList=T.toList↔S=T:=by
 constructor
 ·intro h
  rw [Go.Lib.toList_data,Go.Lib.toList_data] at h
  exact list_eq h
 ·intro h;rw [h]
theorem IsS.yes {S T:ByteArray} {s t:List Nat} (h:IsS S s) (k:IsS T t) (e:s=t):(S.toList == T.toList)=true:=by
 rw [beq_iff_eq];exact toList_eq_iff.2 ((h.eqT k).2 e)
theorem IsS.no {S T:ByteArray} {s t:List Nat} (h:IsS S s) (k:IsS T t) (e:s≠t):(S.toList == T.toList)=false:=by
 rw [beq_eq_false_iff_ne];exact fun h2=>e ((h.eqT k).1 (toList_eq_iff.1 h2))
theorem IsS.index {S:ByteArray} {s:List Nat} (h:IsS S s) (i:Nat) (hi:i<s.length) (w:World) :
  (Instr.index 9 (.string S) (.int .i64 (i:Int))).run Tryz.prog w = .ok (.int .u8 ((s.getD i 0:Nat):Int)) w:=by
 have hs:=h.size
 rw [run_index_string w 9 S .i64 i Tryz.underlying9,dif_pos ⟨by omega,by omega⟩]
 have e:=h.at i (by omega)
 rw [←e]
 rfl
end
section
set_option maxRecDepth 20000
open Go.RowKit
def Rt.val (r:Rt):Value:=.agg #[.int .i64 r.ep,.int .i64 r.pg,.int .i64 r.dr,.int .i64 r.wd]
set_option maxHeartbeats 400000 in
theorem mayE_any (e:Int) (w:World):Calls Tryz.prog 134 #[.int .i64 e] w fun x w'=>x = .returned (.bool (mayE e))∧w=w':=by
 by_cases h1:1≤e
 ·have HE:Hid (mayE e=decide (e≤4611686018427387904)):=Lib.hid (by unfold mayE;simp [h1])
  rw [HE.out]
  go_enter Tryz.func134,Tryz.ntmps134
  go_wp2_with fail
  go_ret
  exact⟨rfl,rfl⟩
 ·have HE:Hid (mayE e=false):=Lib.hid (by unfold mayE;simp [h1])
  have hd:decide ((1:Int)≤e)=false:=decide_eq_false h1
  rw [HE.out]
  clear h1
  go_enter Tryz.func134,Tryz.ntmps134
  go_wp2_with fail
  go_ret
  exact⟨rfl,rfl⟩
set_option maxHeartbeats 400000 in
theorem place_any (e:Int) (w:World):Calls Tryz.prog 187 #[.int .i64 e] w fun x w'=>x = .returned (.int .i64 (place e))∧w=w':=by
 have HM:=Lib.hid (mayE_any e w)
 by_cases h:mayE e=true
 ·rw [h] at HM
  have he:1≤e∧e≤4611686018427387904:=by unfold mayE at h;simpa using h
  by_cases h2:e % 2=1
  ·have HE:Hid (place e=4):=Lib.hid (by unfold place;rw [if_pos h,if_pos h2])
   have hd:(e % 2 == 1)=true:=by rw [beq_iff_eq];exact h2
   rw [HE.out]
   clear h h2 HE
   go_enter Tryz.func187,Tryz.ntmps187
   go_wp2_with (go_at_call 134;refine HM.out.mono ?_;rintro e w' ⟨rfl,rfl⟩)
   go_ret
   exact⟨rfl,rfl⟩
  ·have HE:Hid (place e=0):=Lib.hid (by unfold place;rw [if_pos h,if_neg h2])
   have hd:(e % 2 == 1)=false:=by rw [beq_eq_false_iff_ne];exact h2
   rw [HE.out]
   clear h h2 HE
   go_enter Tryz.func187,Tryz.ntmps187
   go_wp2_with (go_at_call 134;refine HM.out.mono ?_;rintro e w' ⟨rfl,rfl⟩)
   go_ret
   exact⟨rfl,rfl⟩
 ·have h0:mayE e=false:=by simpa using h
  have HE:Hid (place e = -1):=Lib.hid (by unfold place;rw [if_neg h])
  rw [h0] at HM
  rw [HE.out]
  clear h h0 HE
  go_enter Tryz.func187,Tryz.ntmps187
  go_wp2_with (go_at_call 134;refine HM.out.mono ?_;rintro e w' ⟨rfl,rfl⟩)
  go_ret
  exact⟨rfl,rfl⟩
def RtAt (w:World) (b t:Nat) (r:Rt):Prop:=w.heap[b]?=some (.cells #[.int .i64 r.ep,.int .i64 r.pg,.int .i64 r.dr,.int .i64 r.wd] t (0,0))
section
variable {w:World} {b t:Nat} {r:Rt}
theorem RtAt.c0 (h:RtAt w b t r):w.cell? ⟨b,0,none⟩=some (.int .i64 r.ep):=by rw [cell_of_row w b 0 _ _ _ h];rfl
theorem RtAt.c1 (h:RtAt w b t r):w.cell? ⟨b,1,none⟩=some (.int .i64 r.pg):=by rw [cell_of_row w b 1 _ _ _ h];rfl
theorem RtAt.c2 (h:RtAt w b t r):w.cell? ⟨b,2,none⟩=some (.int .i64 r.dr):=by rw [cell_of_row w b 2 _ _ _ h];rfl
theorem RtAt.c3 (h:RtAt w b t r):w.cell? ⟨b,3,none⟩=some (.int .i64 r.wd):=by rw [cell_of_row w b 3 _ _ _ h];rfl
theorem RtAt.fz (h:RtAt w b t r) (i:Nat):w.frozen? ⟨b,i,none⟩=false:=frozen_of_row w b i _ _ h
theorem RtAt.lt (h:RtAt w b t r):b<w.heap.size:=by
 rcases Nat.lt_or_ge b w.heap.size with h1 | h1
 ·exact h1
 ·unfold RtAt at h;rw [Array.getElem?_eq_none h1] at h;cases h
theorem RtAt.below {w':World} (h:RtAt w b t r) (hb:Below w.heap.size w w'):RtAt w' b t r:=(hb.block b h.lt).trans h
theorem RtAt.new (w:World) (r:Rt) (t:Nat):RtAt (w.alloc (.cells #[.int .i64 r.ep,.int .i64 r.pg,.int .i64 r.dr,.int .i64 r.wd] t)) w.heap.size t r:=heap_alloc_new w _
end
set_option maxHeartbeats 400000 in
theorem may_any (r:Rt) (w:World):Calls Tryz.prog 87 #[r.val] w fun x w'=>x = .returned (.bool (may r))∧Below w.heap.size w w':=by
 obtain⟨ep,pg,dr,wd⟩:=r
 unfold Rt.val
 have HM:=Lib.hid (fun w=>mayE_any ep w)
 by_cases h0:mayE ep=true
 case neg=>
  have HE:Hid (may ⟨ep,pg,dr,wd⟩=false):=Lib.hid (by
   cases hb:may ⟨ep,pg,dr,wd⟩ with
   | false=>rfl
   | true=>
    have hm:=may_yes hb
    have q0:=hm.e0
    have q1:=hm.e1
    have q2:=hm.p0
    have q3:=hm.p1
    have q4:=hm.d0
    have q5:=hm.d1
    have q6:=hm.w0
    have q7:=hm.w1
    simp only at q0 q1 q2 q3 q4 q5 q6 q7
    exact absurd (by unfold mayE;simp [q0,q1]) h0)
  rw [HE.out]
  have hb:mayE ep=false:=by simpa using h0
  rw [hb] at HM
  clear h0 hb
  clear HE
  go_enter Tryz.func87,Tryz.ntmps87
  go_wp2_with (go_at_call 134;refine(HM.out _).mono ?_;rintro e w' ⟨rfl,rfl⟩)
  go_ret
  exact⟨rfl,(Below.refl _ _).alloc (Nat.le_refl _) _⟩
 rw [h0] at HM
 by_cases h1:4≤pg
 case neg=>
  have HE:Hid (may ⟨ep,pg,dr,wd⟩=false):=Lib.hid (by
   cases hb:may ⟨ep,pg,dr,wd⟩ with
   | false=>rfl
   | true=>
    have hm:=may_yes hb
    have q0:=hm.e0
    have q1:=hm.e1
    have q2:=hm.p0
    have q3:=hm.p1
    have q4:=hm.d0
    have q5:=hm.d1
    have q6:=hm.w0
    have q7:=hm.w1
    simp only at q0 q1 q2 q3 q4 q5 q6 q7
    omega)
  rw [HE.out]
  have hd:decide (4≤pg)=false:=decide_eq_false h1
  clear HE
  go_enter Tryz.func87,Tryz.ntmps87
  go_wp2_with (go_at_call 134;refine(HM.out _).mono ?_;rintro e w' ⟨rfl,rfl⟩)
  go_ret
  exact⟨rfl,(Below.refl _ _).alloc (Nat.le_refl _) _⟩
 by_cases h2:pg≤512
 case neg=>
  have HE:Hid (may ⟨ep,pg,dr,wd⟩=false):=Lib.hid (by
   cases hb:may ⟨ep,pg,dr,wd⟩ with
   | false=>rfl
   | true=>
    have hm:=may_yes hb
    have q0:=hm.e0
    have q1:=hm.e1
    have q2:=hm.p0
    have q3:=hm.p1
    have q4:=hm.d0
    have q5:=hm.d1
    have q6:=hm.w0
    have q7:=hm.w1
    simp only at q0 q1 q2 q3 q4 q5 q6 q7
    omega)
  rw [HE.out]
  have hd:decide (pg≤512)=false:=decide_eq_false h2
  clear HE
  go_enter Tryz.func87,Tryz.ntmps87
  go_wp2_with (go_at_call 134;refine(HM.out _).mono ?_;rintro e w' ⟨rfl,rfl⟩)
  go_ret
  exact⟨rfl,(Below.refl _ _).alloc (Nat.le_refl _) _⟩
 by_cases h3:2≤dr
 case neg=>
  have HE:Hid (may ⟨ep,pg,dr,wd⟩=false):=Lib.hid (by
   cases hb:may ⟨ep,pg,dr,wd⟩ with
   | false=>rfl
   | true=>
    have hm:=may_yes hb
    have q0:=hm.e0
    have q1:=hm.e1
    have q2:=hm.p0
    have q3:=hm.p1
    have q4:=hm.d0
    have q5:=hm.d1
    have q6:=hm.w0
    have q7:=hm.w1
    simp only at q0 q1 q2 q3 q4 q5 q6 q7
    omega)
  rw [HE.out]
  have hd:decide (2≤dr)=false:=decide_eq_false h3
  clear HE
  go_enter Tryz.func87,Tryz.ntmps87
  go_wp2_with (go_at_call 134;refine(HM.out _).mono ?_;rintro e w' ⟨rfl,rfl⟩)
  go_ret
  exact⟨rfl,(Below.refl _ _).alloc (Nat.le_refl _) _⟩
 by_cases h4:dr<pg
 case neg=>
  have HE:Hid (may ⟨ep,pg,dr,wd⟩=false):=Lib.hid (by
   cases hb:may ⟨ep,pg,dr,wd⟩ with
   | false=>rfl
   | true=>
    have hm:=may_yes hb
    have q0:=hm.e0
    have q1:=hm.e1
    have q2:=hm.p0
    have q3:=hm.p1
    have q4:=hm.d0
    have q5:=hm.d1
    have q6:=hm.w0
    have q7:=hm.w1
    simp only at q0 q1 q2 q3 q4 q5 q6 q7
    omega)
  rw [HE.out]
  have hd:decide (dr<pg)=false:=decide_eq_false h4
  clear HE
  go_enter Tryz.func87,Tryz.ntmps87
  go_wp2_with (go_at_call 134;refine(HM.out _).mono ?_;rintro e w' ⟨rfl,rfl⟩)
  go_ret
  exact⟨rfl,(Below.refl _ _).alloc (Nat.le_refl _) _⟩
 by_cases h5:0≤wd
 case neg=>
  have HE:Hid (may ⟨ep,pg,dr,wd⟩=false):=Lib.hid (by
   cases hb:may ⟨ep,pg,dr,wd⟩ with
   | false=>rfl
   | true=>
    have hm:=may_yes hb
    have q0:=hm.e0
    have q1:=hm.e1
    have q2:=hm.p0
    have q3:=hm.p1
    have q4:=hm.d0
    have q5:=hm.d1
    have q6:=hm.w0
    have q7:=hm.w1
    simp only at q0 q1 q2 q3 q4 q5 q6 q7
    omega)
  rw [HE.out]
  have hd:decide (0≤wd)=false:=decide_eq_false h5
  clear HE
  go_enter Tryz.func87,Tryz.ntmps87
  go_wp2_with (go_at_call 134;refine(HM.out _).mono ?_;rintro e w' ⟨rfl,rfl⟩)
  go_ret
  exact⟨rfl,(Below.refl _ _).alloc (Nat.le_refl _) _⟩
 by_cases h6:wd≤2147483647
 case neg=>
  have HE:Hid (may ⟨ep,pg,dr,wd⟩=false):=Lib.hid (by
   cases hb:may ⟨ep,pg,dr,wd⟩ with
   | false=>rfl
   | true=>
    have hm:=may_yes hb
    have q0:=hm.e0
    have q1:=hm.e1
    have q2:=hm.p0
    have q3:=hm.p1
    have q4:=hm.d0
    have q5:=hm.d1
    have q6:=hm.w0
    have q7:=hm.w1
    simp only at q0 q1 q2 q3 q4 q5 q6 q7
    omega)
  rw [HE.out]
  have hd:decide (wd≤2147483647)=false:=decide_eq_false h6
  clear HE
  go_enter Tryz.func87,Tryz.ntmps87
  go_wp2_with (go_at_call 134;refine(HM.out _).mono ?_;rintro e w' ⟨rfl,rfl⟩)
  go_ret
  exact⟨rfl,(Below.refl _ _).alloc (Nat.le_refl _) _⟩
 have HE:Hid (may ⟨ep,pg,dr,wd⟩=true):=Lib.hid (by
  unfold may
  simp only [Bool.and_eq_true,decide_eq_true_eq]
  exact⟨⟨⟨⟨⟨⟨h0,h1⟩,h2⟩,h3⟩,h4⟩,h5⟩,h6⟩)
 rw [HE.out]
 clear HE
 go_enter Tryz.func87,Tryz.ntmps87
 go_wp2_with (go_at_call 134;refine(HM.out _).mono ?_;rintro e w' ⟨rfl,rfl⟩)
 go_ret
 exact⟨rfl,(Below.refl _ _).alloc (Nat.le_refl _) _⟩
end
section
set_option maxRecDepth 20000
open Go.RowKit
def toI (x:Nat):Int:=if x<9223372036854775808 then (x:Int) else (x:Int) - 18446744073709551616
theorem toI_small {x:Nat} (h:x<9223372036854775808):toI x=(x:Int):=by unfold toI;rw [if_pos h]
theorem toI_wrap {x:Nat} (h:x<18446744073709551616):IntKind.i64.wrap (x:Int)=toI x:=by
 unfold toI
 rw [IntKind.wrap_i64]
 split <;> omega
theorem plus_or (a b:Nat) (h:b<256):a*256 ||| b=a*256+b:=by
 have:=Nat.two_pow_add_eq_or_of_lt (i:=8) h a
 rw [show (2:Nat) ^ 8=256 from rfl,Nat.mul_comm 256 a] at this
 exact this.symm
theorem or_byte0 (m c:Nat) (hm:m<72057594037927936) (hc:c<256):bits .or .i64 (IntKind.i64.wrap ((m:Int)*256)) (c:Int)=toI (m*256+c):=by
 show IntKind.i64.wrap ((BitVec.ofInt 64 (IntKind.i64.wrap ((m:Int)*256)) ||| BitVec.ofInt 64 (c:Int)).toNat:Int)=_
 have e1:(BitVec.ofInt 64 (IntKind.i64.wrap ((m:Int)*256))).toNat=m*256:=by
  rw [BitVec.toNat_ofInt,IntKind.wrap_i64]
  omega
 have e2:(BitVec.ofInt 64 (c:Int)).toNat=c:=by
  rw [BitVec.toNat_ofInt]
  omega
 rw [BitVec.toNat_or,e1,e2,plus_or m c hc]
 exact toI_wrap (by omega)
theorem or_byte (m c:Nat) (hm:m<72057594037927936) (hc:c<256):bits .or .i64 (wrap64 ((m:Int)*256)) (c:Int)=toI (m*256+c):=by
 rw [show wrap64 ((m:Int)*256)=IntKind.i64.wrap ((m:Int)*256) by unfold wrap64;exact(IntKind.wrap_i64 _).symm]
 exact or_byte0 m c hm hc
theorem val_take_succ (s:List Nat) (j:Nat) (h:j<s.length):val (s.take (j+1))=val (s.take j)*256+s.getD j 0:=by
 rw [take_succ_getD s j h,val_snoc]
theorem val_take_lt (s:List Nat) (j k:Nat) (hd:∀x∈s,x<256) (h:j≤k):val (s.take j)<256 ^ k:=
 Nat.lt_of_lt_of_le (val_lt _ (fun x hx=>hd x (List.mem_of_mem_take hx))) (Nat.pow_le_pow_right (by omega) (by rw [List.length_take];omega))
theorem getD_lt {s:List Nat} (hd:∀x∈s,x<256) (i:Nat):s.getD i 0<256:=by
 rw [List.getD_eq_getElem?_getD]
 cases e:s[i]? with
 | none=>decide
 | some x=>exact hd x (List.mem_of_getElem? e)
set_option maxHeartbeats 400000 in
theorem take_any5 (S:ByteArray) (s:List Nat) (w:World) (hS:IsS S s) (hl:s.length≤8) :
  Calls Tryz.prog 252 #[.string S] w fun e w'=>e = .returned (.int .i64 (toI (val s)))∧w=w':=by
 have HS:=Lib.hid hS
 have hsz:=hS.size
 obtain⟨n,hn⟩:∃n,s.length=n:=⟨_,rfl⟩
 rw [hn] at hsz hl
 have HN:=Lib.hid hn
 have HD:=Lib.hid hS.dig
 have HIX:=Lib.hid hS.index
 obtain⟨V,HV⟩:∃V,Hid (toI (val s)=V):=⟨_,Lib.hid rfl⟩
 rw [HV.out]
 clear hS hn
 go_enter Tryz.func252,Tryz.ntmps252
 go_wp2_with fail
 go_loop [3,7] (fun nv iv=>∃j:Nat,j≤n∧iv = .int .i64 (j:Int)∧nv = .int .i64 (toI (val (s.take j)))) (fun _ i=>n - (RowKit.intOf i).toNat)
 case atStart=>exact⟨0,by omega,by go_num,rfl⟩
 case round=>
  obtain⟨j,hj,rfl,rfl⟩:=hrel
  by_cases hlt:j<n
  ·have hix:=HIX.out j (by rw [HN.out];exact hlt)
   have hm:val (s.take j)<72057594037927936:=val_take_lt s j 7 HD.out (by omega)
   have hc:=getD_lt HD.out j
   have HNX:Hid (toI (val (s.take (j+1)))=toI (val (s.take j)*256+s.getD j 0)):=Lib.hid (by rw [val_take_succ s j (by rw [HN.out];exact hlt)])
   rw [toI_small (show val (s.take j)<9223372036854775808 by omega)]
   generalize val (s.take j)=m at *
   generalize s.getD j 0=c at *
   have hor:=or_byte m c hm hc
   clear HIX
   go_wp2_with fail
   go_round
   case rel=>exact⟨j+1,by omega,by go_num,by rw [HNX.out]⟩
   case measure=>simp [RowKit.intOf];omega
  ·obtain rfl:j=n:=by omega
   have HE:Hid (toI (val (s.take j))=V):=Lib.hid (by rw [List.take_of_length_le (by rw [HN.out];omega)];exact HV.out)
   go_wp2_with fail
   go_ret
   exact⟨by rw [←HE.out];rfl,rfl⟩
end
section
set_option maxRecDepth 20000
open Go.RowKit
theorem placeOf_any (k:Nat) (w:World) (h1:k≤1099511627776):Calls Tryz.prog 113 #[.int .i64 ((k:Int)+1)] w fun e w'=>e = .returned (.tuple #[.int .i64 ((k / 128:Nat):Int),.int .i64 ((k % 128:Nat):Int)])∧w=w':=by
 have e1:(k:Int)+1 - 1=(k:Int):=by omega
 have hk:(k:Int)≤1099511627776:=by omega
 generalize (k:Int)+1=N at *
 go_enter Tryz.func113,Tryz.ntmps113
 have w1:wrap64 (N - 1)=(k:Int):=by rw [e1];unfold wrap64;omega
 have w2:IntKind.i64.wrap (N - 1)=(k:Int):=by rw [e1,IntKind.wrap_i64];omega
 go_wp2_with fail
 go_ret2
 exact⟨rfl,rfl⟩
theorem numberAt_any (i j:Nat) (w:World) (hi:i≤1099511627776) (hj:j≤1099511627776):Calls Tryz.prog 38 #[.int .i64 (i:Int),.int .i64 (j:Int)] w fun e w'=>e = .returned (.int .i64 ((i:Int)*128+(j:Int)+1))∧w=w':=by
 have h1:(i:Int)≤1099511627776:=by omega
 have h2:(j:Int)≤1099511627776:=by omega
 go_enter Tryz.func38,Tryz.ntmps38
 go_wp2_with fail
 go_ret
 exact⟨rfl,rfl⟩
def pagesForN (n:Nat):Nat:=if n≤479 then 0 else (n+511) / 512
def recordSizeN (n:Nat):Nat:=if 0<pagesForN n then 5+2*pagesForN n else 1+n
theorem pagesFor_any (n:Nat) (w:World) (hn:n≤9223372036854770000):Calls Tryz.prog 97 #[.int .i64 (n:Int)] w fun e w'=>e = .returned (.int .i64 (pagesForN n:Int))∧w=w':=by
 unfold pagesForN
 have h1:(n:Int)≤9223372036854770000:=by omega
 by_cases h:n≤479
 ·have d:decide ((n:Int)≤479)=true:=decide_eq_true (by omega)
  have d2:decide (n≤479)=true:=decide_eq_true h
  rw [if_pos h]
  clear h
  go_enter Tryz.func97,Tryz.ntmps97
  go_wp2_with fail
  go_ret
  exact⟨rfl,rfl⟩
 ·have d:decide ((n:Int)≤479)=false:=decide_eq_false (by omega)
  have d2:decide (n≤479)=false:=decide_eq_false h
  rw [if_neg h]
  clear h
  go_enter Tryz.func97,Tryz.ntmps97
  have e1:(n:Int)+512 - 1=((n+511:Nat):Int):=by omega
  go_wp2_with fail
  go_ret
  exact⟨rfl,rfl⟩
theorem recordSize_any (n:Nat) (w:World) (hn:n≤1099511627776):Calls Tryz.prog 96 #[.int .i64 (n:Int)] w fun e w'=>e = .returned (.int .i64 (recordSizeN n:Int))∧w=w':=by
 have HP:=Lib.hid (pagesFor_any n w (by omega))
 unfold recordSizeN
 have hp:pagesForN n≤1099511627776:=by unfold pagesForN;split <;> omega
 have hn1:(n:Int)≤1099511627776:=by omega
 generalize pagesForN n=p at *
 have hp1:(p:Int)≤1099511627776:=by omega
 by_cases h:0<p
 ·have d:decide ((0:Int)<(p:Int))=true:=decide_eq_true (by omega)
  have d2:decide (0<p)=true:=decide_eq_true h
  rw [if_pos h]
  clear h
  go_enter Tryz.func96,Tryz.ntmps96
  go_wp2_with (go_at_call 97;refine HP.out.mono ?_;rintro e w1 ⟨rfl,rfl⟩)
  go_ret
  exact⟨by rw [show ((5+2*p:Nat):Int)=5+(p:Int)*2 by omega];rfl,rfl⟩
 ·have d:decide ((0:Int)<(p:Int))=false:=decide_eq_false (by omega)
  have d2:decide (0<p)=false:=decide_eq_false h
  rw [if_neg h]
  clear h
  go_enter Tryz.func96,Tryz.ntmps96
  go_wp2_with (go_at_call 97;refine HP.out.mono ?_;rintro e w1 ⟨rfl,rfl⟩)
  go_ret
  exact⟨rfl,rfl⟩
theorem spotOf_any (l k:Nat) (w:World) (hl:l≤1099511627776) (hk:k≤1099511627776):Calls Tryz.prog 109 #[.int .i64 (l:Int),.int .i64 (k:Int)] w fun e w'=>e = .returned (.int .i64 ((l:Int)*64+(k:Int)+1))∧w=w':=by
 have h1:(l:Int)≤1099511627776:=by omega
 have h2:(k:Int)≤1099511627776:=by omega
 go_enter Tryz.func109,Tryz.ntmps109
 go_wp2_with fail
 go_ret
 exact⟨rfl,rfl⟩
theorem spotPage_any (k:Nat) (w:World) (hk:k≤1099511627776):Calls Tryz.prog 115 #[.int .i64 ((k:Int)+1)] w fun e w'=>e = .returned (.int .i64 ((k / 64:Nat):Int))∧w=w':=by
 have e1:(k:Int)+1 - 1=(k:Int):=by omega
 have hk:(k:Int)≤1099511627776:=by omega
 generalize (k:Int)+1=N at *
 go_enter Tryz.func115,Tryz.ntmps115
 have w1:wrap64 (N - 1)=(k:Int):=by rw [e1];unfold wrap64;omega
 have w2:IntKind.i64.wrap (N - 1)=(k:Int):=by rw [e1,IntKind.wrap_i64];omega
 go_wp2_with fail
 go_ret
 exact⟨rfl,rfl⟩
theorem spotSlot_any (k:Nat) (w:World) (hk:k≤1099511627776):Calls Tryz.prog 117 #[.int .i64 ((k:Int)+1)] w fun e w'=>e = .returned (.int .i64 ((k % 64:Nat):Int))∧w=w':=by
 have e1:(k:Int)+1 - 1=(k:Int):=by omega
 have hk:(k:Int)≤1099511627776:=by omega
 generalize (k:Int)+1=N at *
 go_enter Tryz.func117,Tryz.ntmps117
 have w1:wrap64 (N - 1)=(k:Int):=by rw [e1];unfold wrap64;omega
 have w2:IntKind.i64.wrap (N - 1)=(k:Int):=by rw [e1,IntKind.wrap_i64];omega
 go_wp2_with fail
 go_ret
 exact⟨rfl,rfl⟩
set_option maxHeartbeats 400000 in
theorem takeS_any (S:ByteArray) (s:List Nat) (w:World) (hS:IsS S s) (hl:s.length≤4) :
  Calls Tryz.prog 162 #[.string S] w fun e w'=>e = .returned (.int .i64 (val s:Int))∧w=w':=by
 have HS:=Lib.hid hS
 have hsz:=hS.size
 obtain⟨n,hn⟩:∃n,s.length=n:=⟨_,rfl⟩
 rw [hn] at hsz hl
 have HN:=Lib.hid hn
 have HD:=Lib.hid hS.dig
 have HIX:=Lib.hid hS.index
 obtain⟨V,HV⟩:∃V,Hid (val s=V):=⟨_,Lib.hid rfl⟩
 rw [HV.out]
 clear hS hn
 go_enter Tryz.func162,Tryz.ntmps162
 go_wp2_with fail
 go_loop [3,7] (fun nv iv=>∃j:Nat,j≤n∧iv = .int .i64 (j:Int)∧nv = .int .i64 (toI (val (s.take j)))) (fun _ i=>n - (RowKit.intOf i).toNat)
 case atStart=>exact⟨0,by omega,by go_num,rfl⟩
 case round=>
  obtain⟨j,hj,rfl,rfl⟩:=hrel
  by_cases hlt:j<n
  ·have hix:=HIX.out j (by rw [HN.out];exact hlt)
   have hm:val (s.take j)<72057594037927936:=val_take_lt s j 7 HD.out (by omega)
   have hc:=getD_lt HD.out j
   have HNX:Hid (toI (val (s.take (j+1)))=toI (val (s.take j)*256+s.getD j 0)):=Lib.hid (by rw [val_take_succ s j (by rw [HN.out];exact hlt)])
   rw [toI_small (show val (s.take j)<9223372036854775808 by omega)]
   generalize val (s.take j)=m at *
   generalize s.getD j 0=c at *
   have hor:=or_byte m c hm hc
   clear HIX
   go_wp2_with fail
   go_round
   case rel=>exact⟨j+1,by omega,by go_num,by rw [HNX.out]⟩
   case measure=>simp [RowKit.intOf];omega
  ·obtain rfl:j=n:=by omega
   have HE:Hid (toI (val (s.take j))=(V:Int)):=Lib.hid (by
    rw [List.take_of_length_le (by rw [HN.out];omega),toI_small (Nat.lt_of_lt_of_le (val_lt s HD.out) (Nat.le_trans (Nat.pow_le_pow_right (by omega) (show s.length≤4 by rw [HN.out];omega)) (by decide))),HV.out])
   go_wp2_with fail
   go_ret
   exact⟨by rw [←HE.out];rfl,rfl⟩
end
section
namespace Sl
open Go.RowKit
abbrev Sl:=Option ByteArray
def recOf (o:Sl):ByteArray:=o.getD ⟨#[]⟩
def sz (o:Sl):Nat:=(recOf o).size
def tot (l:List Sl):Nat:=(l.map sz).sum
def need (l:List Sl):Nat:=1+2*l.length+tot l
def bareI (l:List Sl):Nat:=l.findIdx (fun o=>o.isNone)
def withL (l:List Sl) (i:Nat) (o:Sl):List Sl:=if i=l.length then l++[o] else l.set i o
def slot (l:List Sl) (i:Nat):Sl:=l.getD i none
def addFull (l:List Sl) (r:ByteArray):Bool:=decide (64<(withL l (bareI l) (some r)).length) || decide (512<need (withL l (bareI l) (some r)))
def addL (l:List Sl) (r:ByteArray):List Sl:=if 480<r.size then l else if addFull l r=true then l else withL l (bareI l) (some r)
def addN (l:List Sl) (r:ByteArray):Nat:=if 480<r.size then 0 else if addFull l r=true then 0 else bareI l
def addE (l:List Sl) (r:ByteArray):Nat:=if 480<r.size then 2 else if addFull l r=true then 8 else 0
def fullI (l:List Sl) (i:Int):Bool:=decide (0≤i) && decide (i<(l.length:Int)) && (slot l i.toNat).isSome
def left (l:List Sl):Int:=512 - (need l:Int)
def room0 (l:List Sl):Int:=left l - if bareI l=l.length then 2 else 0
def room (l:List Sl):Int:=if bareI l=64∨room0 l<0 then -1 else min (room0 l) 480
structure Okp (l:List Sl):Prop where
 len:l.length≤64
 need:need l≤512
 last:l=[]∨(slot l (l.length - 1)).isSome=true
 sz:∀o∈l,sz o≤480
theorem sz_none:sz none=0:=rfl
theorem sz_some (r:ByteArray):sz (some r)=r.size:=rfl
theorem slot_lt {l:List Sl} {i:Nat} (h:i<l.length):l[i]?=some (slot l i):=by
 unfold slot;rw [List.getD_eq_getElem?_getD,List.getElem?_eq_getElem h];rfl
theorem slot_ge {l:List Sl} {i:Nat} (h:l.length≤i):slot l i=none:=by
 unfold slot;rw [List.getD_eq_getElem?_getD,List.getElem?_eq_none h];rfl
theorem slot_set {l:List Sl} {i:Nat} (h:i<l.length) (o:Sl) (j:Nat):slot (l.set i o) j=if i=j then o else slot l j:=by
 unfold slot
 rw [List.getD_eq_getElem?_getD,List.getD_eq_getElem?_getD,List.getElem?_set]
 split
 ·rename_i e;subst e;simp [h]
 ·rfl
theorem slot_snoc (l:List Sl) (o:Sl) (j:Nat):slot (l++[o]) j=if j=l.length then o else slot l j:=by
 unfold slot
 rw [List.getD_eq_getElem?_getD,List.getD_eq_getElem?_getD]
 rcases Nat.lt_trichotomy j l.length with h | h | h
 ·rw [if_neg (by omega),List.getElem?_append_left h]
 ·rw [if_pos h,h,List.getElem?_append_right (Nat.le_refl _)];simp
 ·rw [if_neg (by omega),List.getElem?_append_right (by omega),List.getElem?_eq_none (by simp;omega),List.getElem?_eq_none (by omega)]
theorem slot_mem {l:List Sl} {i:Nat} (h:i<l.length):slot l i∈l:=List.mem_of_getElem? (slot_lt h)
theorem tot_append (a b:List Sl):tot (a++b)=tot a+tot b:=by unfold tot;rw [List.map_append,List.sum_append]
theorem tot_one (o:Sl):tot [o]=sz o:=by simp [tot]
theorem tot_take_succ {l:List Sl} {k:Nat} (h:k<l.length):tot (l.take (k+1))=tot (l.take k)+sz (slot l k):=by
 rw [List.take_succ_eq_append_getElem h,tot_append,tot_one]
 congr 2
 have:=slot_lt h
 rw [List.getElem?_eq_getElem h] at this
 exact Option.some.inj this
theorem tot_split {l:List Sl} {k:Nat} (h:k<l.length):tot l=tot (l.take k)+sz (slot l k)+tot (l.drop (k+1)):=by
 rw [←tot_take_succ h,←tot_append,List.take_append_drop]
theorem tot_set {l:List Sl} {k:Nat} (h:k<l.length) (o:Sl):tot (l.set k o)+sz (slot l k)=tot l+sz o:=by
 have h1:=tot_split (l:=l.set k o) (k:=k) (by simpa using h)
 have h2:=tot_split h
 rw [slot_set h,if_pos rfl,List.take_set_of_le (Nat.le_refl _),List.drop_set_of_lt (by omega)] at h1
 omega
theorem tot_take_le (l:List Sl) (k:Nat):tot (l.take k)≤tot l:=by
 have:=tot_append (l.take k) (l.drop k)
 rw [List.take_append_drop] at this
 omega
theorem bareI_le (l:List Sl):bareI l≤l.length:=List.findIdx_le_length
theorem bareI_lt {l:List Sl} (h:bareI l<l.length):slot l (bareI l)=none:=by
 have h1:=List.findIdx_getElem (w:=h)
 have h2:=slot_lt h
 rw [List.getElem?_eq_getElem h] at h2
 rw [←Option.some.inj h2]
 unfold bareI at h1 ⊢
 simpa using h1
theorem bareI_no {l:List Sl} {j:Nat} (h:j<bareI l):(slot l j).isSome=true:=by
 have hj:j<l.length:=Nat.lt_of_lt_of_le h (bareI_le l)
 have h1:=List.not_of_lt_findIdx h
 have h2:=slot_lt hj
 rw [List.getElem?_eq_getElem hj] at h2
 rw [←Option.some.inj h2]
 cases e:l[j] with
 | none=>rw [e] at h1;simp at h1
 | some r=>rfl
theorem bareI_eq {l:List Sl} {i:Nat} (h:i≤l.length) (h1:∀j,j<i→(slot l j).isSome=true) (h2:i<l.length→slot l i=none):bareI l=i:=by
 rcases Nat.lt_trichotomy (bareI l) i with h3 | h3 | h3
 ·have:=h1 _ h3
  rw [bareI_lt (by omega)] at this;cases this
 ·exact h3
 ·have:=bareI_no h3
  rw [h2 (Nat.lt_of_lt_of_le h3 (bareI_le l))] at this;cases this
theorem withL_len {l:List Sl} {i:Nat} (h:i≤l.length) (o:Sl):(withL l i o).length=if i=l.length then l.length+1 else l.length:=by
 unfold withL;split <;> simp
theorem withL_need {l:List Sl} (r:ByteArray):need (withL l (bareI l) (some r))=need l+r.size+if bareI l=l.length then 2 else 0:=by
 unfold withL need
 split
 ·rw [List.length_append,tot_append,tot_one,sz_some];simp;omega
 ·rename_i h
  have h1:bareI l<l.length:=by have:=bareI_le l;omega
  have h2:=tot_set h1 (some r)
  rw [bareI_lt h1,sz_none,sz_some] at h2
  rw [List.length_set];omega
theorem withL_slot {l:List Sl} {i:Nat} (h:i≤l.length) (o:Sl) (j:Nat):slot (withL l i o) j=if j=i then o else slot l j:=by
 unfold withL
 split
 ·rename_i e;rw [slot_snoc,e]
 ·rw [slot_set (by omega)];split <;> rename_i h1 <;> split <;> rename_i h2 <;> first | rfl | (exfalso;omega)
theorem room_full {l:List Sl} (h:l.length≤64) (r:ByteArray) (hr:r.size≤480):addFull l r=decide (room l<(r.size:Int)):=by
 unfold addFull room room0 left
 rw [withL_need,withL_len (bareI_le l),←Bool.decide_or,decide_eq_decide]
 have:=bareI_le l
 split <;> (repeat' split) <;> omega
theorem take_slot {l:List Sl} {k:Nat} (h:k<l.length):l.take (k+1)=l.take k++[slot l k]:=by
 rw [List.take_succ_eq_append_getElem h]
 congr 2
 have:=slot_lt h
 rw [List.getElem?_eq_getElem h] at this
 exact Option.some.inj this
theorem Okp.nil_:Okp []:=⟨by decide,by decide,.inl rfl,by simp⟩
theorem Okp.left {l:List Sl} (h:Okp l):0≤left l:=by have:=h.need;unfold Go.Proofs.YtmbecjlioogbhaaGreatDoor.Sl.left;omega
theorem Okp.szs {l:List Sl} (h:Okp l) (i:Nat):Go.Proofs.YtmbecjlioogbhaaGreatDoor.Sl.sz (slot l i)≤480:=by
 rcases Nat.lt_or_ge i l.length with h1 | h1
 ·exact h.sz _ (slot_mem h1)
 ·rw [slot_ge h1];decide
theorem okp_of {l:List Sl} (h1:l.length≤64) (h2:Go.Proofs.YtmbecjlioogbhaaGreatDoor.Sl.need l≤512) (h3:l=[]∨(slot l (l.length - 1)).isSome=true) (h4:∀i,i<l.length→Go.Proofs.YtmbecjlioogbhaaGreatDoor.Sl.sz (slot l i)≤480):Okp l:=
 ⟨h1,h2,h3,fun o ho=>by
  obtain⟨i,hi,e⟩:=List.getElem_of_mem ho
  have:=slot_lt hi
  rw [List.getElem?_eq_getElem hi,e] at this
  rw [Option.some.inj this];exact h4 i hi⟩
theorem Okp.add {l:List Sl} (h:Okp l) (r:ByteArray):Okp (addL l r):=by
 unfold addL
 split
 ·exact h
 ·rename_i hr
  split
  ·exact h
  ·rename_i hf
   unfold addFull at hf
   simp only [Bool.or_eq_true,decide_eq_true_eq,not_or,Nat.not_lt] at hf
   refine okp_of hf.1 hf.2 (.inr ?_) (fun i _=>?_)
   ·rw [withL_slot (bareI_le l)]
    split
    ·rfl
    ·rename_i hne
     rw [withL_len (bareI_le l)] at hne ⊢
     split at hne
     ·exfalso;omega
     ·rename_i h2
      rw [if_neg h2]
      rcases h.last with h3 | h3
      ·subst h3;exact absurd rfl h2
      ·exact h3
   ·rw [withL_slot (bareI_le l)]
    split
    ·rw [sz_some];omega
    ·exact h.szs i
theorem fullI_nat (l:List Sl) (k:Nat):fullI l (k:Int)=(slot l k).isSome:=by
 unfold fullI
 rw [Int.toNat_natCast]
 rcases Nat.lt_or_ge k l.length with h | h
 ·rw [decide_eq_true (by omega),decide_eq_true (by omega)];rfl
 ·rw [slot_ge h];simp
def two (o:Sl):List Value:=[.bool o.isSome,.string (recOf o)]
def flat (l:List Sl):List Value:=l.flatMap two
theorem flat_append (a b:List Sl):flat (a++b)=flat a++flat b:=by unfold flat;rw [List.flatMap_append]
theorem flat_one (o:Sl):flat [o]=two o:=by simp [flat]
theorem flat_cons (o:Sl) (l:List Sl):flat (o :: l)=two o++flat l:=rfl
theorem flat_get (l:List Sl) (k:Nat) (h:k<l.length):(flat l)[k*2]?=some (.bool (slot l k).isSome)∧(flat l)[k*2+1]?=some (.string (recOf (slot l k))):=by
 induction l generalizing k with
 | nil=>cases h
 | cons a l ih=>
  cases k with
  | zero=>exact⟨rfl,rfl⟩
  | succ k=>
   have h2:=ih k (by simpa using h)
   have hl:(two a).length=2:=rfl
   rw [flat_cons,List.getElem?_append_right (by rw [hl];omega),List.getElem?_append_right (by rw [hl];omega)]
   rw [hl,show (k+1)*2 - 2=k*2 by omega,show (k+1)*2+1 - 2=k*2+1 by omega]
   exact h2
theorem flat_set (l:List Sl) (k:Nat) (o:Sl) (h:k<l.length):(((flat l).set (k*2) (.bool o.isSome)).set (k*2+1) (.string (recOf o)))=flat (l.set k o):=by
 induction l generalizing k with
 | nil=>cases h
 | cons a l ih=>
  cases k with
  | zero=>rfl
  | succ k=>
   have h2:=ih k (by simpa using h)
   have e1:(k+1)*2=k*2+1+1:=by omega
   rw [e1]
   exact congrArg (fun z=>Value.bool (Option.isSome a) :: Value.string (recOf a) :: z) h2
end Sl
end
end Go.Proofs.YtmbecjlioogbhaaGreatDoor
