/- 'same' of any thing: a reader that stands ahead of its bytes goes past; one that stands ahead of a beginning of them is at their end. -/
import Derived.Test.YtggkemgbacddgaaSameS
import Derived.Test.YtggkemgbacddgaaAll
namespace Go.Proofs.Ytggkemgbacddgaa
open Go.RowKit

theorem numB_pre (N t : Nat) (h : t < (numB N).length) : Goes ((numB N).take t) ((numB N).take t).length := by
  obtain ⟨k, k1, k2, _⟩ := numB_at N
  intro j hj
  rw [List.length_take] at hj
  rw [getD_take _ _ _ (by omega), k2 j (by omega)]
  omega
def Opv.val (x : Opv) : Value := .agg #[.int .i64 x.kind, .int .i64 x.num, .slice x.p x.m x.c]

theorem same_hit (g d b o : Nat) (x : Opv) (bs rest : List Nat) (w : World) (HR : Hid (Rd w g d bs 0)) (hl : bs.length ≤ 1099511627776) (HB : Hid (bs = x.enc ++ rest)) (hx : OpAt w b o x) (hm : x.m ≤ 300) (hF : Far g x.p x.m) :
    Calls Try.prog 15 #[.pointer (some ⟨g, 0, none⟩), x.val] w fun e w' => e = .returned (.bool true) ∧ Went w w' g d rest 0 := by
  by_cases h0 : x.kind = 0
  · have := same_count g d _ x.num (.slice x.p x.m x.c) bs rest w HR hl (Lib.hid (by rw [← enc_0 h0]; exact HB.out)) hx.n1 (Lib.hid rfl)
    unfold Opv.val
    rw [h0]; exact this
  · by_cases h1 : x.kind = 1
    · have := same_whole g d _ x.num (.slice x.p x.m x.c) bs rest w HR hl (Lib.hid (by rw [← enc_1 h0 h1]; exact HB.out)) hx.n0 hx.n1 (Lib.hid rfl)
      unfold Opv.val
      rw [h1]; exact this
    · exact same_sized g d _ x.kind x.num x.p x.m x.c bs x.ds rest w HR hl (Lib.hid (by rw [← List.append_assoc, ← enc_2 h0 h1]; exact HB.out)) (by have := hx.bys.len; omega) (by rw [beq_eq_false_iff_ne]; exact h0) (by rw [beq_eq_false_iff_ne]; exact h1) (Lib.hid hx.bys) (Lib.hid hF) (Lib.hid rfl)

theorem same_cut (g d b o t : Nat) (x : Opv) (bs : List Nat) (w : World) (HR : Hid (Rd w g d bs 0)) (HB : Hid (bs = x.enc.take t)) (ht : t < x.enc.length) (hx : OpAt w b o x) (hm : x.m ≤ 300) (hF : Far g x.p x.m) :
    Calls Try.prog 15 #[.pointer (some ⟨g, 0, none⟩), x.val] w fun e w' => (∃ z, e = .returned (.bool z)) ∧ Went w w' g d bs 3 := by
  have hlen := hx.len hm
  have hl : bs.length ≤ 1099511627776 := by rw [HB.out, List.length_take]; omega
  by_cases h0 : x.kind = 0
  · have := same_count_cut g d x.num (.slice x.p x.m x.c) bs w HR hl (Lib.hid (by rw [HB.out, enc_0 h0]; exact numB_pre _ _ (by rw [enc_0 h0] at ht; exact ht)))
    unfold Opv.val
    rw [h0]; exact this
  · by_cases h1 : x.kind = 1
    · have := same_whole_cut g d x.num (.slice x.p x.m x.c) bs w HR hl (Lib.hid (by rw [HB.out, enc_1 h0 h1]; exact numB_pre _ _ (by rw [enc_1 h0 h1] at ht; exact ht)))
      unfold Opv.val
      rw [h1]; exact this
    · refine same_sized_none g d x.kind x.num x.p x.m x.c bs x.ds w HR (by rw [beq_eq_false_iff_ne]; exact h0) (by rw [beq_eq_false_iff_ne]; exact h1) (Lib.hid hx.bys) (Lib.hid hF) (Lib.hid fun W hW => ?_)
      have he := enc_2 h0 h1
      have hdl := hx.bys.len
      by_cases hlt : t < (numB x.ds.length).length
      · have hb : bs = (numB x.ds.length).take t := by rw [HB.out, he, List.take_append_of_le_length (by omega)]
        exact sized_none g d bs W (Lib.hid hW) hl (Lib.hid (by rw [hb]; exact numB_pre _ _ hlt))
      · have hb : bs = numB x.ds.length ++ x.ds.take (t - (numB x.ds.length).length) := by rw [HB.out, he, List.take_append, List.take_of_length_le (by omega)]
        refine sized_cut g d x.ds.length _ bs _ W (Lib.hid hW) hl (Lib.hid hb) (by omega) ?_ (Lib.hid rfl)
        rw [he, List.length_append] at ht
        rw [List.length_take]; omega

/-- The bytes of the next things. -/
def encsFrom (f : Nat → Opv) : Nat → Nat → List Nat
  | _, 0 => []
  | i, k + 1 => (f i).enc ++ encsFrom f (i + 1) k
theorem encs_split (f : Nat → Opv) (k : Nat) : ∀ i, encs f (i + k) = encs f i ++ encsFrom f i k := by
  induction k with
  | zero => intro i; show encs f i = encs f i ++ []; rw [List.append_nil]
  | succ k ih =>
    intro i
    rw [show i + (k + 1) = (i + 1) + k by omega, ih (i + 1)]
    show (encs f i ++ (f i).enc) ++ encsFrom f (i + 1) k = encs f i ++ ((f i).enc ++ encsFrom f (i + 1) k)
    rw [List.append_assoc]
theorem OpAt.far {w : World} {b o g : Nat} {x : Opv} (h : OpAt w b o x) (hg : w.heap.size ≤ g) : Far g x.p x.m := fun hn b o e => Nat.ne_of_lt (Nat.lt_of_lt_of_le (h.bys.lt hn b o e) hg)
end Go.Proofs.Ytggkemgbacddgaa
