/- What DiskKeeps returns: true. -/
import Derived.Test.YtdldjpgbifcljaaKeeps0
import Derived.Deep.CutBlock
import Derived.Deep.RegionHeld3
import Derived.Deep.DrawnRows
import Derived.Deep.DeepCutAuto
namespace Go.Proofs.Ytdldjpgbifcljaa
open Go.RowKit

theorem Ops.below {w w' : World} {p : Option Addr} {n : Nat} {f : Nat → Opv} (h : Ops w p n f) (hb : Below w.heap.size w w') : Ops w' p n f := fun hn => by
  obtain ⟨b, o, e, hc⟩ := h hn
  exact ⟨b, o, e, fun r hr => (hc r hr).below hb⟩
set_option maxRecDepth 100000 in
set_option maxHeartbeats 3200000 in
theorem keeps_heavy (a0 : Option Addr) (n0 c0 : Nat) (f0 : Nat → Opv) (a1 : Option Addr) (n1 c1 : Nat) (f1 : Nat → Opv) (o : Opv) (W : World) (hn0 : n0 ≤ 9223372036854775807) (hO0 : Ops W a0 n0 f0) (hn1 : n1 ≤ 9223372036854775807) (hO1 : Ops W a1 n1 f1) (hh : ¬ (Light n0 f0 ∧ Light n1 f1 ∧ o.nk ≤ 100)) :
    Calls Try.prog 4 #[.slice a0 n0 c0, .slice a1 n1 c1, o.val] W fun e w' => e = .returned (.bool true) ∧ Below W.heap.size W w' := by
  have HO0 := Lib.hid hO0
  have HO1 := Lib.hid hO1
  have HH := Lib.hid hh
  clear hO0 hO1 hh
  obtain ⟨kind, at_, num, torn, long, y, p, nk, ck, keep⟩ := o
  change Calls _ _ #[_, _, .agg #[.int .i64 kind, .int .i64 at_, .int .i64 num, .int .i64 torn, .int .i64 long, .int .u8 (y : Int), .slice p nk ck]] _ _
  simp only at HH
  have HB0 : Hid (Below W.heap.size W (W.alloc (.cells #[.int .i64 kind, .int .i64 at_, .int .i64 num, .int .i64 torn, .int .i64 long, .int .u8 (y : Int), .slice p nk ck] 39))) := Lib.hid ((Below.refl _ _).alloc (Nat.le_refl _) _)
  go_enter Try.func4, Try.ntmps4
  by_cases h0 : Light n0 f0
  · go_wp2_with fail
    refine (light_yes a0 n0 c0 f0 _ (HO0.out.below HB0.out) h0).mono ?_
    rintro e w2 ⟨rfl, rfl⟩
    by_cases h1 : Light n1 f1
    · have hk : decide ((100 : Int) < (nk : Int)) = true := decide_eq_true (by have := HH.out; have : ¬ nk ≤ 100 := fun h => this ⟨h0, h1, h⟩; omega)
      go_wp2_with fail
      refine (light_yes a1 n1 c1 f1 _ (HO1.out.below HB0.out) h1).mono ?_
      rintro e w3 ⟨rfl, rfl⟩
      go_wp2_with fail
      refine (lives_any _).mono ?_
      rintro e w4 ⟨rfl, hb⟩
      have HB := Lib.hid (HB0.out.trans (hb.mono HB0.out.size))
      go_wp2_with fail
      go_ret
      exact ⟨rfl, HB.out⟩
    · go_wp2_with fail
      refine (light_no a1 n1 c1 f1 _ hn1 (HO1.out.below HB0.out) h1).mono ?_
      rintro e w3 ⟨rfl, rfl⟩
      go_wp2_with fail
      refine (lives_any _).mono ?_
      rintro e w4 ⟨rfl, hb⟩
      have HB := Lib.hid (HB0.out.trans (hb.mono HB0.out.size))
      go_wp2_with fail
      go_ret
      exact ⟨rfl, HB.out⟩
  · go_wp2_with fail
    refine (light_no a0 n0 c0 f0 _ hn0 (HO0.out.below HB0.out) h0).mono ?_
    rintro e w2 ⟨rfl, rfl⟩
    go_wp2_with fail
    refine (lives_any _).mono ?_
    rintro e w4 ⟨rfl, hb⟩
    have HB := Lib.hid (HB0.out.trans (hb.mono HB0.out.size))
    go_wp2_with fail
    go_ret
    exact ⟨rfl, HB.out⟩
def wasF (m : Dsk) (i : Nat) : Nat → Value := fun k => if k < i then .string (strB (readS m (k : Int))) else .string ⟨#[]⟩
theorem was_step (m : Dsk) (i : Nat) (h : i < 4) : (four (wasF m i)).setIfInBounds i (.string (strB (readS m (i : Int)))) = four (wasF m (i + 1)) := by
  rw [four_set _ _ _ h]
  refine four_congr fun k _ => ?_
  unfold wasF
  by_cases e : k = i
  · subst e; rw [if_pos rfl, if_pos (by omega)]
  · rw [if_neg e]
    by_cases e2 : k < i
    · rw [if_pos e2, if_pos (by omega)]
    · rw [if_neg e2, if_neg (by omega)]
/-- The law amid its first loop. -/
structure K1 (W wr : World) (g : Nat) (m : Dsk) (cs : Array Value) (bW i : Nat) : Prop where
  hi : HI W wr g m
  x : Blk wr W.heap.size 39 cs
  b : Blk wr bW 43 (four (wasF m i))
  ne : W.heap.size < bW
theorem K1.next {W wr : World} {g : Nat} {m : Dsk} {cs : Array Value} {bW i : Nat} (h : K1 W wr g m cs bW i) (hi : i < 4) : K1 W (wr.setCell ⟨bW, i, none⟩ (.string (strB (readS m (i : Int))))) g m cs bW (i + 1) :=
  ⟨h.hi.set h.b (by decide) (Nat.le_of_lt h.ne) i _, h.x.other (Nat.ne_of_lt h.ne) _, by rw [← was_step m i hi]; exact h.b.set i _, h.ne⟩
/-- The law amid its second loop. -/
structure K2 (W wr : World) (g : Nat) (base : List (List Nat)) (m : Dsk) (ag : Nat → Bool) (cs : Array Value) (bW bA : Nat) (was : Nat → Value) (n : Nat) : Prop where
  hi : HI W wr g m
  ki : KI base ag n m
  a : Blk wr bA 47 (four (fun k => .bool (ag k)))
  x : Blk wr W.heap.size 39 cs
  b : Blk wr bW 43 (four was)
  ne1 : W.heap.size < bW
  ne2 : bW < bA
section
variable {W wr w' : World} {g : Nat} {base : List (List Nat)} {m m' : Dsk} {ag : Nat → Bool} {cs : Array Value} {bW bA n n' : Nat} {was : Nat → Value}
theorem K2.le (h : K2 W wr g base m ag cs bW bA was n) (hb : Below wr.heap.size wr w') : K2 W w' g base m ag cs bW bA was n := ⟨h.hi.le hb, h.ki, h.a.below hb, h.x.below hb, h.b.below hb, h.ne1, h.ne2⟩
theorem K2.goes (h : K2 W wr g base m ag cs bW bA was n) (hg : Goes W wr w' g m') (hk : KI base ag n' m') : K2 W w' g base m' ag cs bW bA was n' :=
  ⟨hg.1, hk, hg.2 _ _ _ (by decide) h.a, hg.2 _ _ _ (by decide) h.x, hg.2 _ _ _ (by decide) h.b, h.ne1, h.ne2⟩
theorem K2.mark (h : K2 W wr g base m ag cs bW bA was n) (q : Nat) (hq : q < 4) : K2 W (wr.setCell ⟨bA, q, none⟩ (.bool true)) g base m (mark ag q) cs bW bA was n :=
  ⟨h.hi.set h.a (by decide) (by have := h.ne1; have := h.ne2; omega) q _, h.ki.mark q, by
    have e := h.a.set q (.bool true)
    rw [four_set _ _ _ hq] at e
    have e2 : four (fun k => if k = q then Value.bool true else .bool (ag k)) = four (fun k => .bool (Go.Proofs.Ytdldjpgbifcljaa.mark ag q k)) := four_congr fun k _ => by
      unfold Go.Proofs.Ytdldjpgbifcljaa.mark
      by_cases ek : k = q
      · rw [if_pos ek, if_pos (by omega)]
      · rw [if_neg ek, if_neg (by omega)]
    rw [e2] at e
    exact e, h.x.other (by have := h.ne1; have := h.ne2; omega) _, h.b.other (by have := h.ne2; omega) _, h.ne1, h.ne2⟩
theorem K2.succ (h : K2 W wr g base m ag cs bW bA was n) : K2 W wr g base m ag cs bW bA was (n + 1) := ⟨h.hi, h.ki.le, h.a, h.x, h.b, h.ne1, h.ne2⟩
/-- A write. -/
theorem K2.put (h : K2 W wr g base m ag cs bW bA was n) (hn : n ≤ 1000) (a : Int) (s : List Nat) (hd : ∀ d ∈ s, d < 256) (ha : 0 ≤ a → a < 4 → ag a.toNat = true) :
    Calls Try.prog 19 #[.pointer (some ⟨g, 0, none⟩), .int .i64 a, .string (strB s)] wr fun e w' => (∃ E, e = .returned (.int .i64 E)) ∧ ∃ m', K2 W w' g base m' ag cs bW bA was (n + 1) := by
  obtain ⟨F, hD, _, hgo⟩ := h.hi.went
  have h1 := h.ki.near.done
  have h2 := h.ki.near.row
  refine (put_any hD a s hd (by omega) (by omega)).mono ?_
  rintro e w' ⟨rfl, hw⟩
  exact ⟨⟨_, rfl⟩, _, h.goes (hgo w' _ hw) (h.ki.put a s ha)⟩
/-- A barrier. -/
theorem K2.bar (h : K2 W wr g base m ag cs bW bA was n) (hn : n ≤ 1000) :
    Calls Try.prog 17 #[.pointer (some ⟨g, 0, none⟩)] wr fun e w' => (∃ E, e = .returned (.int .i64 E)) ∧ ∃ m', K2 W w' g base m' ag cs bW bA was (n + 1) := by
  obtain ⟨F, hD, _, hgo⟩ := h.hi.went
  have h1 := h.ki.near.done
  have h2 := h.ki.near.row
  refine (barrier_any hD (by omega) (by omega)).mono ?_
  rintro e w' ⟨rfl, hw⟩
  exact ⟨⟨_, rfl⟩, _, h.goes (hgo w' _ hw) h.ki.bar⟩
end
theorem bar_bad {m : Dsk} (h : m.down = true ∨ m.fuse = 0) : barE m = 9 ∧ (barM m).down = true := by
  unfold barE barM
  by_cases hd : m.down = true
  · rw [if_pos hd, if_pos hd]; exact ⟨rfl, hd⟩
  · have hf : m.fuse = 0 := h.resolve_left hd
    rw [if_neg hd, if_neg hd, if_pos hf, if_pos hf]; exact ⟨rfl, rfl⟩
theorem bar_good {m : Dsk} (h : ¬ (m.down = true ∨ m.fuse = 0)) : barE m = 0 := by
  unfold barE
  rw [if_neg (fun e => h (.inl e)), if_neg (fun e => h (.inr e))]
set_option maxRecDepth 100000 in
set_option maxHeartbeats 3200000 in
theorem keeps_short (a0 : Option Addr) (n0 c0 : Nat) (f0 : Nat → Opv) (a1 : Option Addr) (n1 c1 : Nat) (f1 : Nat → Opv) (o : Opv) (W : World) (hO0 : Ops W a0 n0 f0) (hO1 : Ops W a1 n1 f1) (h0 : Light n0 f0) (h1 : Light n1 f1) (hk : o.nk ≤ 100) (hK : Kp W o.p o.nk o.keep) :
    Calls Try.prog 4 #[.slice a0 n0 c0, .slice a1 n1 c1, o.val] W fun e w' => e = .returned (.bool true) ∧ Below W.heap.size W w' := by
  have HO0 := Lib.hid hO0
  have HO1 := Lib.hid hO1
  have HL0 := Lib.hid h0
  have HL1 := Lib.hid h1
  have hn0 := h0.1
  have hn1 := h1.1
  clear hO0 hO1 h0 h1
  obtain ⟨kind, at_, num, torn, long, y, p, nk, ck, keep⟩ := o
  change Calls _ _ #[_, _, .agg #[.int .i64 kind, .int .i64 at_, .int .i64 num, .int .i64 torn, .int .i64 long, .int .u8 (y : Int), .slice p nk ck]] _ _
  simp only at hk hK
  have HK := Lib.hid hK
  clear hK
  have hk2 : decide ((100 : Int) < (nk : Int)) = false := decide_eq_false (by omega)
  have HB0 : Hid (Below W.heap.size W (W.alloc (.cells #[.int .i64 kind, .int .i64 at_, .int .i64 num, .int .i64 torn, .int .i64 long, .int .u8 (y : Int), .slice p nk ck] 39))) := Lib.hid ((Below.refl _ _).alloc (Nat.le_refl _) _)
  have HX0 : Hid (Blk (W.alloc (.cells #[.int .i64 kind, .int .i64 at_, .int .i64 num, .int .i64 torn, .int .i64 long, .int .u8 (y : Int), .slice p nk ck] 39)) W.heap.size 39 #[.int .i64 kind, .int .i64 at_, .int .i64 num, .int .i64 torn, .int .i64 long, .int .u8 (y : Int), .slice p nk ck]) := Lib.hid ⟨heap_alloc_new W _⟩
  go_enter Try.func4, Try.ntmps4
  go_upto_region 1 with fail
  generalize W.alloc (.cells #[.int .i64 kind, .int .i64 at_, .int .i64 num, .int .i64 torn, .int .i64 long, .int .u8 (y : Int), .slice p nk ck] 39) = w1 at *
  have k6 := HX0.out.c 6
  simp only [List.getElem?_toArray, List.getElem?_cons_succ, List.getElem?_cons_zero] at k6
  go_wp2_with fail
  refine (light_yes a0 n0 c0 f0 _ (HO0.out.below HB0.out) HL0.out).mono ?_
  rintro e w2 ⟨rfl, rfl⟩
  go_wp2_with fail
  refine (light_yes a1 n1 c1 f1 _ (HO1.out.below HB0.out) HL1.out).mono ?_
  rintro e w2 ⟨rfl, rfl⟩
  go_wp2_with fail
  refine (played_any a0 n0 c0 f0 _ (by omega) (HO0.out.below HB0.out)).mono ?_
  rintro e w2 ⟨g, F, rfl, hD, hF, hb⟩
  have HI0 : Hid (HI W w2 g (runM (newM 4) f0 n0)) := Lib.hid ⟨⟨F, hD, fun k hk => Nat.le_trans HB0.out.size (hF k hk)⟩, HB0.out.trans (hb.mono HB0.out.size)⟩
  have HX := Lib.hid (HX0.out.below hb)
  have HN := Lib.hid (runM_near 4 f0 n0)
  clear hD hF hb HX0 HB0 k6
  generalize runM (newM 4) f0 n0 = m0 at *
  go_upto_region 7 with fail
  have H1 : Hid (K1 W (w2.alloc (.cells #[.string ⟨#[]⟩, .string ⟨#[]⟩, .string ⟨#[]⟩, .string ⟨#[]⟩] 43)) g m0 #[.int .i64 kind, .int .i64 at_, .int .i64 num, .int .i64 torn, .int .i64 long, .int .u8 (y : Int), .slice p nk ck] w2.heap.size 0) := Lib.hid ⟨HI0.out.le ((Below.refl _ _).alloc (Nat.le_refl _) _), HX.out.below ((Below.refl _ _).alloc (Nat.le_refl _) _), ⟨heap_alloc_new w2 _⟩, HX.out.lt⟩
  clear HI0 HX
  generalize w2.alloc (.cells #[.string ⟨#[]⟩, .string ⟨#[]⟩, .string ⟨#[]⟩, .string ⟨#[]⟩] 43) = w3 at *
  generalize w2.heap.size = bW at *
  go_wp2_with fail
  go_loopw [9] (fun iv wq => ∃ i : Nat, i ≤ 4 ∧ iv = .int .i64 (i : Int) ∧ Hid (K1 W wq g m0 #[.int .i64 kind, .int .i64 at_, .int .i64 num, .int .i64 torn, .int .i64 long, .int .u8 (y : Int), .slice p nk ck] bW i)) (fun iv _ => 4 - (intOf iv).toNat)
  case atStart => exact ⟨0, by omega, by go_num, H1⟩
  case round =>
    clear H1
    obtain ⟨i, hi, rfl, hr⟩ := hrel
    by_cases hlt : i < 4
    · have kc := (hr.out.b.c i).trans (four_get _ i hlt)
      have kf := hr.out.b.fz i
      obtain ⟨F, hD, _⟩ := hr.out.hi.dk
      have HRD := Lib.hid (hD.read (i : Int))
      have HNX := Lib.hid (hr.out.next hlt)
      clear hr hD
      generalize strB (readS m0 (i : Int)) = S at *
      generalize readE m0 (i : Int) = E at *
      go_wp2_with fail
      refine HRD.out.mono ?_
      rintro e w4 ⟨rfl, rfl⟩
      clear HRD
      go_wp2_with fail
      go_roundw
      case rel => exact ⟨i + 1, by omega, by go_num, HNX⟩
      case measure => simp [intOf]; omega
    · obtain rfl : i = 4 := by omega
      obtain ⟨F, hD, _, hgo⟩ := hr.out.hi.went
      have hb := barrier_any hD (by have := HN.out.done; omega) (by have := HN.out.row; omega)
      have HGO := Lib.hid hgo
      clear hD hgo
      by_cases hbad : m0.down = true ∨ m0.fuse = 0
      · obtain ⟨e1, e2⟩ := bar_bad hbad
        rw [e1] at hb
        have HBR := Lib.hid hb
        clear hb hbad e1
        have E2 := Lib.hid e2
        clear e2
        go_wp2_with fail
        refine HBR.out.mono ?_
        rintro e w4 ⟨rfl, hw⟩
        obtain ⟨F2, hD2, _⟩ := (HGO.out w4 _ hw).1.dk
        have hdn := hD2.down
        rw [E2.out] at hdn
        have HDN := Lib.hid hdn
        have HB4 := Lib.hid (HGO.out w4 _ hw).1.below
        clear hdn hD2 hw HBR
        go_wp2_with fail
        refine HDN.out.mono ?_
        rintro e w5 ⟨rfl, rfl⟩
        go_wp2_with fail
        refine (lives_any _).mono ?_
        rintro e w6 ⟨rfl, hb⟩
        have HB := Lib.hid (HB4.out.trans (hb.mono HB4.out.size))
        go_wp2_with fail
        go_ret
        exact ⟨rfl, HB.out⟩
      · rw [bar_good hbad] at hb
        have HBR := Lib.hid hb
        have HBAD := Lib.hid hbad
        clear hb hbad
        go_wp2_with fail
        refine HBR.out.mono ?_
        rintro e w4 ⟨rfl, hw⟩
        have HG := Lib.hid (HGO.out w4 _ hw)
        clear hw HBR HGO
        go_upto_region 14 with fail
        have H2 : Hid (∃ m ag, K2 W (w4.alloc (.cells #[.bool false, .bool false, .bool false, .bool false] 47)) g m0.last m ag #[.int .i64 kind, .int .i64 at_, .int .i64 num, .int .i64 torn, .int .i64 long, .int .u8 (y : Int), .slice p nk ck] bW w4.heap.size (wasF m0 4) (n0 + 1 + 0)) := Lib.hid ⟨_, _, HG.out.1.le ((Below.refl _ _).alloc (Nat.le_refl _) _), KI.start HN.out (by have := HBAD.out; cases h : m0.down <;> simp_all) (fun h => HBAD.out (.inr h)), ⟨heap_alloc_new w4 _⟩, (HG.out.2 _ _ _ (by decide) hr.out.x).below ((Below.refl _ _).alloc (Nat.le_refl _) _), (HG.out.2 _ _ _ (by decide) hr.out.b).below ((Below.refl _ _).alloc (Nat.le_refl _) _), hr.out.ne, (HG.out.2 _ _ _ (by decide) hr.out.b).lt⟩
        have HWF : Hid (∀ k, k < 4 → wasF m0 4 k = .string (strB (sec m0.last k))) := Lib.hid (fun k hk => by
          unfold wasF readS
          rw [if_pos hk, if_neg (fun e => HBAD.out (.inl e)), has_true (by omega) (by rw [HN.out.out]; omega), if_neg (by simp)]
          rfl)
        clear hr HG HN HBAD
        generalize wasF m0 4 = was at *
        generalize m0.last = base at *
        generalize w4.alloc (.cells #[.bool false, .bool false, .bool false, .bool false] 47) = w5 at *
        generalize w4.heap.size = bA at *
        go_wp2_with fail
        go_loopw [11] (fun iv wq => ∃ i : Nat, i ≤ n1 ∧ iv = .int .i64 (i : Int) ∧ Hid (∃ m ag, K2 W wq g base m ag #[.int .i64 kind, .int .i64 at_, .int .i64 num, .int .i64 torn, .int .i64 long, .int .u8 (y : Int), .slice p nk ck] bW bA was (n0 + 1 + i))) (fun iv _ => n1 - (intOf iv).toNat)
        case atStart => exact ⟨0, by omega, by go_num, H2⟩
        case round =>
          clear H2
          obtain ⟨i, hi, rfl, hr⟩ := hrel
          by_cases hlt : i < n1
          · obtain ⟨b2, o2, rfl, hc⟩ := HO1.out (by omega)
            obtain ⟨m, ag, h2⟩ := hr.out
            have hopW := hc i hlt
            generalize f1 i = op at *
            obtain ⟨kk, aa, d2, d3, d4, d5, d6, d7, d8, d9⟩ := op
            have hop := hopW.below h2.hi.below
            have a0 := hop.c0
            have a1 := hop.c1
            simp only at a0 a1
            have HOP := Lib.hid hopW
            have H2 := Lib.hid h2
            clear hc hop hopW h2 hr
            have bi : (0 : Int) ≤ (i : Int) := by omega
            have bi2 : (i : Int) < (n1 : Int) := by omega
            by_cases hk0 : kk = 0
            · have t1 : (kk == 1) = false := by subst hk0; rfl
              subst hk0
              have hop2 := HOP.out.below H2.out.hi.below
              have a2 := hop2.c2
              have a3 := hop2.c3
              have a4 := hop2.c4
              have a5 := hop2.c5
              have a6 := hop2.c6
              simp only at a2 a3 a4 a5 a6
              clear hop2
              rcases (show aa < 0 ∨ (0 ≤ aa ∧ aa < 4) ∨ 4 ≤ aa by omega) with hlo | ⟨hm1, hm2⟩ | hhi
              · have g1 : decide (0 ≤ aa) = false := decide_eq_false (by omega)
                have H3 := H2
                clear H2
                go_upto_region 20 with fail
                go_region_held3 (fun w' => w'.cell? ⟨b2, o2 + i * 7, none⟩ = some (.int .i64 0) ∧ w'.cell? ⟨b2, o2 + i * 7 + 1, none⟩ = some (.int .i64 aa) ∧ w'.cell? ⟨b2, o2 + i * 7 + 2, none⟩ = some (.int .i64 d2) ∧ w'.cell? ⟨b2, o2 + i * 7 + 3, none⟩ = some (.int .i64 d3) ∧ w'.cell? ⟨b2, o2 + i * 7 + 4, none⟩ = some (.int .i64 d4) ∧ w'.cell? ⟨b2, o2 + i * 7 + 5, none⟩ = some (.int .u8 (d5 : Int)) ∧ w'.cell? ⟨b2, o2 + i * 7 + 6, none⟩ = some (.slice d6 d7 d8)) (go_keep)
                  (first
                  | (go_at_call 20; refine (filled_any ⟨0, aa, d2, d3, d4, d5, d6, d7, d8, d9⟩ _ HOP.out.ok).mono ?_; rintro e wf ⟨rfl, hb⟩; have HF2 := Lib.hid (K2.le (by first | with_reducible exact H3.out | with_reducible exact H3.out.le (Below.refl _ _).drew) hb); have hop2 := HOP.out.below HF2.out.hi.below; have a0 := hop2.c0; have a1 := hop2.c1; have a2 := hop2.c2; have a3 := hop2.c3; have a4 := hop2.c4; have a5 := hop2.c5; have a6 := hop2.c6; clear hop2 hb)
                  | (go_at_call 19; refine (K2.put HF2.out (by omega) (aa) _ (fillS_dig HOP.out.ok.fill) (fun h _ => absurd h (by omega))).mono ?_; rintro e w6 ⟨⟨E, rfl⟩, m2, h2⟩; have HN : Hid (∃ m ag, K2 W w6 g base m ag #[.int .i64 kind, .int .i64 at_, .int .i64 num, .int .i64 torn, .int .i64 long, .int .u8 (y : Int), .slice p nk ck] bW bA was (n0 + 1 + (i + 1))) := Lib.hid ⟨_, _, h2⟩; have hop2 := HOP.out.below h2.hi.below; have a0 := hop2.c0; have a1 := hop2.c1; have a2 := hop2.c2; have a3 := hop2.c3; have a4 := hop2.c4; have a5 := hop2.c5; have a6 := hop2.c6; clear h2 hop2))
                clear H3 HF2 HOP
                go_wp2_with fail
                go_roundw
                case rel => exact ⟨i + 1, by omega, by go_num, HN⟩
                case measure => simp [intOf]; omega
              · obtain ⟨q, rfl⟩ : ∃ q : Nat, aa = (q : Int) := ⟨aa.toNat, by omega⟩
                have hq : q < 4 := by omega
                have g1 : decide ((0 : Int) ≤ (q : Int)) = true := decide_eq_true hm1
                have g2 : decide ((q : Int) < 4) = true := decide_eq_true hm2
                have H3 := Lib.hid (H2.out.mark q hq)
                have kc := (H2.out.a.c q).trans (four_get _ q hq)
                have kf := H2.out.a.fz q
                clear H2
                go_upto_region 19 with fail
                clear kc kf a0 a1 a2 a3 a4 a5 a6
                generalize wr.setCell ⟨bA, q, none⟩ (.bool true) = wm at *
                have hop2 := HOP.out.below H3.out.hi.below
                have a0 := hop2.c0
                have a1 := hop2.c1
                have a2 := hop2.c2
                have a3 := hop2.c3
                have a4 := hop2.c4
                have a5 := hop2.c5
                have a6 := hop2.c6
                simp only at a0 a1 a2 a3 a4 a5 a6
                clear hop2
                go_upto_region 20 with fail
                go_region_held3 (fun w' => w'.cell? ⟨b2, o2 + i * 7, none⟩ = some (.int .i64 0) ∧ w'.cell? ⟨b2, o2 + i * 7 + 1, none⟩ = some (.int .i64 (q : Int)) ∧ w'.cell? ⟨b2, o2 + i * 7 + 2, none⟩ = some (.int .i64 d2) ∧ w'.cell? ⟨b2, o2 + i * 7 + 3, none⟩ = some (.int .i64 d3) ∧ w'.cell? ⟨b2, o2 + i * 7 + 4, none⟩ = some (.int .i64 d4) ∧ w'.cell? ⟨b2, o2 + i * 7 + 5, none⟩ = some (.int .u8 (d5 : Int)) ∧ w'.cell? ⟨b2, o2 + i * 7 + 6, none⟩ = some (.slice d6 d7 d8)) (go_keep)
                  (first
                  | (go_at_call 20; refine (filled_any ⟨0, (q : Int), d2, d3, d4, d5, d6, d7, d8, d9⟩ _ HOP.out.ok).mono ?_; rintro e wf ⟨rfl, hb⟩; have HF2 := Lib.hid (K2.le (by first | with_reducible exact H3.out | with_reducible exact H3.out.le (Below.refl _ _).drew) hb); have hop2 := HOP.out.below HF2.out.hi.below; have a0 := hop2.c0; have a1 := hop2.c1; have a2 := hop2.c2; have a3 := hop2.c3; have a4 := hop2.c4; have a5 := hop2.c5; have a6 := hop2.c6; clear hop2 hb)
                  | (go_at_call 19; refine (K2.put HF2.out (by omega) (q : Int) _ (fillS_dig HOP.out.ok.fill) (fun _ _ => by unfold mark; rw [Int.toNat_natCast, if_pos rfl])).mono ?_; rintro e w6 ⟨⟨E, rfl⟩, m2, h2⟩; have HN : Hid (∃ m ag, K2 W w6 g base m ag #[.int .i64 kind, .int .i64 at_, .int .i64 num, .int .i64 torn, .int .i64 long, .int .u8 (y : Int), .slice p nk ck] bW bA was (n0 + 1 + (i + 1))) := Lib.hid ⟨_, _, h2⟩; have hop2 := HOP.out.below h2.hi.below; have a0 := hop2.c0; have a1 := hop2.c1; have a2 := hop2.c2; have a3 := hop2.c3; have a4 := hop2.c4; have a5 := hop2.c5; have a6 := hop2.c6; clear h2 hop2))
                clear H3 HF2 HOP
                go_wp2_with fail
                go_roundw
                case rel => exact ⟨i + 1, by omega, by go_num, HN⟩
                case measure => simp [intOf]; omega
              · have g1 : decide (0 ≤ aa) = true := decide_eq_true (by omega)
                have g2 : decide (aa < 4) = false := decide_eq_false (by omega)
                have H3 := H2
                clear H2
                go_upto_region 20 with fail
                go_region_held3 (fun w' => w'.cell? ⟨b2, o2 + i * 7, none⟩ = some (.int .i64 0) ∧ w'.cell? ⟨b2, o2 + i * 7 + 1, none⟩ = some (.int .i64 aa) ∧ w'.cell? ⟨b2, o2 + i * 7 + 2, none⟩ = some (.int .i64 d2) ∧ w'.cell? ⟨b2, o2 + i * 7 + 3, none⟩ = some (.int .i64 d3) ∧ w'.cell? ⟨b2, o2 + i * 7 + 4, none⟩ = some (.int .i64 d4) ∧ w'.cell? ⟨b2, o2 + i * 7 + 5, none⟩ = some (.int .u8 (d5 : Int)) ∧ w'.cell? ⟨b2, o2 + i * 7 + 6, none⟩ = some (.slice d6 d7 d8)) (go_keep)
                  (first
                  | (go_at_call 20; refine (filled_any ⟨0, aa, d2, d3, d4, d5, d6, d7, d8, d9⟩ _ HOP.out.ok).mono ?_; rintro e wf ⟨rfl, hb⟩; have HF2 := Lib.hid (K2.le (by first | with_reducible exact H3.out | with_reducible exact H3.out.le (Below.refl _ _).drew) hb); have hop2 := HOP.out.below HF2.out.hi.below; have a0 := hop2.c0; have a1 := hop2.c1; have a2 := hop2.c2; have a3 := hop2.c3; have a4 := hop2.c4; have a5 := hop2.c5; have a6 := hop2.c6; clear hop2 hb)
                  | (go_at_call 19; refine (K2.put HF2.out (by omega) (aa) _ (fillS_dig HOP.out.ok.fill) (fun _ h => absurd h (by omega))).mono ?_; rintro e w6 ⟨⟨E, rfl⟩, m2, h2⟩; have HN : Hid (∃ m ag, K2 W w6 g base m ag #[.int .i64 kind, .int .i64 at_, .int .i64 num, .int .i64 torn, .int .i64 long, .int .u8 (y : Int), .slice p nk ck] bW bA was (n0 + 1 + (i + 1))) := Lib.hid ⟨_, _, h2⟩; have hop2 := HOP.out.below h2.hi.below; have a0 := hop2.c0; have a1 := hop2.c1; have a2 := hop2.c2; have a3 := hop2.c3; have a4 := hop2.c4; have a5 := hop2.c5; have a6 := hop2.c6; clear h2 hop2))
                clear H3 HF2 HOP
                go_wp2_with fail
                go_roundw
                case rel => exact ⟨i + 1, by omega, by go_num, HN⟩
                case measure => simp [intOf]; omega
            · have t0 : (kk == 0) = false := by simpa using hk0
              by_cases hk1 : kk = 1
              · subst hk1
                go_wp2_with fail
                refine (H2.out.bar (by omega)).mono ?_
                rintro e w6 ⟨⟨E, rfl⟩, m2, h2⟩
                have HN : Hid (∃ m ag, K2 W w6 g base m ag #[.int .i64 kind, .int .i64 at_, .int .i64 num, .int .i64 torn, .int .i64 long, .int .u8 (y : Int), .slice p nk ck] bW bA was (n0 + 1 + (i + 1))) := Lib.hid ⟨_, _, h2⟩
                clear h2 H2 a0 a1 HOP
                go_wp2_with fail
                go_roundw
                case rel => exact ⟨i + 1, by omega, by go_num, HN⟩
                case measure => simp [intOf]; omega
              · have t1 : (kk == 1) = false := by simpa using hk1
                have HN : Hid (∃ m ag, K2 W wr g base m ag #[.int .i64 kind, .int .i64 at_, .int .i64 num, .int .i64 torn, .int .i64 long, .int .u8 (y : Int), .slice p nk ck] bW bA was (n0 + 1 + (i + 1))) := Lib.hid ⟨_, _, H2.out.succ⟩
                clear H2
                go_wp2_with fail
                go_roundw
                case rel => exact ⟨i + 1, by omega, by go_num, HN⟩
                case measure => simp [intOf]; omega
          · obtain rfl : i = n1 := by omega
            obtain ⟨m, ag, h2⟩ := hr.out
            obtain ⟨F, hD, hF, hgo⟩ := h2.hi.went
            have b6 := h2.x.c 6
            have b3 := h2.x.c 3
            have b2 := h2.x.c 2
            simp only [List.getElem?_toArray, List.getElem?_cons_succ, List.getElem?_cons_zero] at b6 b3 b2
            have hrow := h2.ki.near.row
            have HFL := Lib.hid (hD.fail (by omega) p nk ck keep (HK.out.below h2.hi.below) (HK.out.off hF) (by omega) torn num)
            have HGO := Lib.hid hgo
            have H2 := Lib.hid h2
            clear hD hF hgo h2 hr hrow
            go_wp2_with fail
            refine HFL.out.mono ?_
            rintro e w6 ⟨rfl, hw⟩
            obtain ⟨hi6, hb6⟩ := HGO.out w6 _ hw
            obtain ⟨F6, hD6, _, hgo6⟩ := hi6.went
            have HST := Lib.hid hD6.start
            have HGO6 := Lib.hid hgo6
            have HB6 := Lib.hid hb6
            clear hi6 hb6 hD6 hgo6 hw HFL HGO b6 b3 b2
            go_wp2_with fail
            refine HST.out.mono ?_
            rintro e w7 ⟨rfl, hw⟩
            obtain ⟨hi7, hb7⟩ := HGO6.out w7 _ hw
            have HA := Lib.hid (hb7 _ _ _ (by decide) (HB6.out _ _ _ (by decide) H2.out.a))
            have HW7 := Lib.hid (hb7 _ _ _ (by decide) (HB6.out _ _ _ (by decide) H2.out.b))
            have HEN := Lib.hid (H2.out.ki.end_ (keepB nk keep) torn num)
            obtain ⟨F7, hD7, _⟩ := hi7.dk
            have HD7 := Lib.hid hD7
            have HB7 := Lib.hid hi7.below
            clear hi7 hb7 hD7 hw HST HGO6 HB6 H2
            generalize startM (failM m (keepB nk keep) torn num) = md at *
            go_wp2_with fail
            go_loop [12] (fun iv => ∃ i : Nat, i ≤ 4 ∧ iv = .int .i64 (i : Int)) (fun iv => 4 - (intOf iv).toNat)
            case atStart => exact ⟨0, by omega, by go_num⟩
            case round =>
              obtain ⟨j, hj, rfl⟩ := hrel
              by_cases hlt4 : j < 4
              · have kA := (HA.out.c j).trans (four_get _ j hlt4)
                have kW := (HW7.out.c j).trans (four_get _ j hlt4)
                rw [HWF.out j hlt4] at kW
                have hrd := HD7.out.read (j : Int)
                obtain ⟨he, hs⟩ := HEN.out j hlt4
                rw [he] at hrd
                by_cases hag : ag j = true
                · rw [hag] at kA
                  generalize strB (readS md (j : Int)) = S at *
                  generalize strB (sec base j) = T at *
                  have HRD := Lib.hid hrd
                  clear hrd hs he
                  go_wp2_with fail
                  refine HRD.out.mono ?_
                  rintro e w8 ⟨rfl, rfl⟩
                  clear HRD
                  go_wp2_with fail
                  go_round
                  case rel => exact ⟨j + 1, by omega, by go_num⟩
                  case measure => simp [intOf]; omega
                · have hagf : ag j = false := by simpa using hag
                  rw [hagf] at kA
                  rw [hs hagf] at hrd
                  generalize strB (sec base j) = S at *
                  have hneq : (S.data.toList == S.data.toList) = true := by simp
                  have HRD := Lib.hid hrd
                  clear hrd hs he
                  go_wp2_with fail
                  refine HRD.out.mono ?_
                  rintro e w8 ⟨rfl, rfl⟩
                  clear HRD
                  go_wp2_with fail
                  go_round
                  case rel => exact ⟨j + 1, by omega, by go_num⟩
                  case measure => simp [intOf]; omega
              · obtain rfl : j = 4 := by omega
                go_wp2_with fail
                refine (lives_any _).mono ?_
                rintro e w8 ⟨rfl, hb⟩
                have HB := Lib.hid (HB7.out.trans (hb.mono HB7.out.size))
                go_wp2_with fail
                go_ret
                exact ⟨rfl, HB.out⟩
theorem keeps_walk (a0 : Option Addr) (n0 c0 : Nat) (f0 : Nat → Opv) (a1 : Option Addr) (n1 c1 : Nat) (f1 : Nat → Opv) (o : Opv) (W : World) (hn0 : n0 ≤ 9223372036854775807) (hO0 : Ops W a0 n0 f0) (hn1 : n1 ≤ 9223372036854775807) (hO1 : Ops W a1 n1 f1) (_hB : OpB o) (hK : Kp W o.p o.nk o.keep) :
    Calls Try.prog 4 #[.slice a0 n0 c0, .slice a1 n1 c1, o.val] W fun e w' => e = .returned (.bool true) ∧ Below W.heap.size W w' := by
  by_cases h : Light n0 f0 ∧ Light n1 f1 ∧ o.nk ≤ 100
  · exact keeps_short a0 n0 c0 f0 a1 n1 c1 f1 o W hO0 hO1 h.1 h.2.1 h.2.2 hK
  · exact keeps_heavy a0 n0 c0 f0 a1 n1 c1 f1 o W hn0 hO0 hn1 hO1 h
end Go.Proofs.Ytdldjpgbifcljaa
