/-
  Steps of the program's map and of the document's own, side by side, in memory of the call's own, over this seat's translation; condition: the table of math/bits reads as the library lays it.
-/
import Derived.Test.YtaihcbkdbdhihaaDoorMl
namespace Go.Proofs.YtaihcbkdbdhihaaDoor
open Go.RowKit

/-- The program's map is us, the document's vs, both in memory made since w. -/
structure Both (w : World) (n pa rp rq : Nat) (us vs : List Bool) (W : World) : Prop where
  pm : PM W pa us
  rm : RM W rp rq vs
  newp : w.heap.size ≤ pa
  newq : w.heap.size ≤ rq
  lu : us.length = n
  lv : vs.length = n
  small : n ≤ 1024
  grown : w.grownBy W none
  tab : Tab w
theorem Both.tabW {w : World} {n pa rp rq : Nat} {us vs : List Bool} {W : World} (h : Both w n pa rp rq us vs W) : Tab W := h.tab.keep0 h.grown
theorem Both.ne {w : World} {n pa rp rq : Nat} {us vs : List Bool} {W : World} (h : Both w n pa rp rq us vs W) : pa ≠ rp ∧ pa ≠ rq := by
  have h1 := h.pm
  have h2 := h.rm
  unfold PM at h1
  refine ⟨?_, ?_⟩
  · rintro rfl
    have h3 := h2.1
    unfold Blk at h1 h3
    rw [h1] at h3
    injection h3 with h3
    injection h3 with _ h4
    exact absurd h4 (by decide)
  · rintro rfl
    have h3 := h2.2
    unfold Blk at h1 h3
    rw [h1] at h3
    injection h3 with h3
    injection h3 with _ h4
    exact absurd h4 (by decide)
theorem Both.keep0 {w : World} {n pa rp rq : Nat} {us vs : List Bool} {W W' : World} (h : Both w n pa rp rq us vs W) (g : W.grownBy W' none) : Both w n pa rp rq us vs W' :=
  ⟨h.pm.keep0 g, h.rm.keep0 g, h.newp, h.newq, h.lu, h.lv, h.small, gb_trans h.grown g, h.tab⟩
theorem Both.p {w : World} {n pa rp rq : Nat} {us vs us' : List Bool} {W W' : World} (h : Both w n pa rp rq us vs W) (P : PM W' pa us') (hl : us'.length = us.length) (g : W.grownBy W' (some pa)) : Both w n pa rp rq us' vs W' :=
  ⟨P, h.rm.keep g (ne_some h.ne.1.symm) (ne_some h.ne.2.symm), h.newp, h.newq, hl.trans h.lu, h.lv, h.small, gb_step h.grown g h.newp, h.tab⟩
theorem Both.r {w : World} {n pa rp rq : Nat} {us vs vs' : List Bool} {W W' : World} (h : Both w n pa rp rq us vs W) (R : RM W' rp rq vs') (hl : vs'.length = vs.length) (g : W.grownBy W' (some rq)) : Both w n pa rp rq us vs' W' :=
  ⟨h.pm.keep g (ne_some h.ne.2), R, h.newp, h.newq, h.lu, hl.trans h.lv, h.small, gb_step h.grown g h.newq, h.tab⟩
/-- Another map's turn leaves this pair. -/
theorem Both.other {w : World} {n pa rp rq c : Nat} {us vs us2 : List Bool} {W W' : World} (h : Both w n c rp rq us vs W) (h2 : Both w n pa rp rq us2 vs W) (hc : c ≠ pa) (g : W.grownBy W' (some pa)) : Both w n c rp rq us vs W' :=
  ⟨h.pm.keep g (ne_some hc), h.rm.keep g (ne_some h2.ne.1.symm) (ne_some h2.ne.2.symm), h.newp, h.newq, h.lu, h.lv, h.small, gb_step h.grown g h2.newp, h.tab⟩

theorem t_use {w : World} {n pa rp rq : Nat} {us vs : List Bool} {W : World} (i : Int) (h : Both w n pa rp rq us vs W) :
    Calls Tryd.prog 11 #[.pointer (some ⟨pa, 0, none⟩), .int .i64 i] W fun e W' => e = .returned (.int .i64 (useE us i)) ∧ Both w n pa rp rq (useS us i) vs W' :=
  (use_any pa us i W h.pm (by rw [h.lu]; exact h.small)).mono fun _ _ ⟨h1, h2, h3⟩ => ⟨h1, h.p h2 (useS_length _ _) h3⟩
theorem t_give {w : World} {n pa rp rq : Nat} {us vs : List Bool} {W : World} (i : Int) (h : Both w n pa rp rq us vs W) :
    Calls Tryd.prog 13 #[.pointer (some ⟨pa, 0, none⟩), .int .i64 i] W fun e W' => e = .returned (.int .i64 (giveE us i)) ∧ Both w n pa rp rq (giveS us i) vs W' :=
  (give_any pa us i W h.pm (by rw [h.lu]; exact h.small)).mono fun _ _ ⟨h1, h2, h3⟩ => ⟨h1, h.p h2 (giveS_length _ _) h3⟩
theorem t_take {w : World} {n pa rp rq : Nat} {us vs : List Bool} {W : World} (h : Both w n pa rp rq us vs W) :
    Calls Tryd.prog 15 #[.pointer (some ⟨pa, 0, none⟩)] W fun e W' => e = .returned (.tuple #[.int .i64 (lowF us), .int .i64 (takeE us)]) ∧ Both w n pa rp rq (takeS us) vs W' :=
  (take_any pa us W h.pm h.tabW (by rw [h.lu]; exact h.small)).mono fun _ _ ⟨h1, h2, h3⟩ => ⟨h1, h.p h2 (takeS_length _) h3⟩
theorem t_ruse {w : World} {n pa rp rq : Nat} {us vs : List Bool} {W : World} (i : Int) (h : Both w n pa rp rq us vs W) :
    Calls Tryd.prog 12 #[.pointer (some ⟨rp, 0, none⟩), .int .i64 i] W fun e W' => e = .returned (.int .i64 (useE vs i)) ∧ Both w n pa rp rq us (useS vs i) W' :=
  (ruse_any rp rq vs i W h.rm).mono fun _ _ ⟨h1, h2, h3⟩ => ⟨h1, h.r h2 (useS_length _ _) h3⟩
theorem t_rgive {w : World} {n pa rp rq : Nat} {us vs : List Bool} {W : World} (i : Int) (h : Both w n pa rp rq us vs W) :
    Calls Tryd.prog 14 #[.pointer (some ⟨rp, 0, none⟩), .int .i64 i] W fun e W' => e = .returned (.int .i64 (giveE vs i)) ∧ Both w n pa rp rq us (giveS vs i) W' :=
  (rgive_any rp rq vs i W h.rm).mono fun _ _ ⟨h1, h2, h3⟩ => ⟨h1, h.r h2 (giveS_length _ _) h3⟩
theorem t_rtake {w : World} {n pa rp rq : Nat} {us vs : List Bool} {W : World} (h : Both w n pa rp rq us vs W) :
    Calls Tryd.prog 16 #[.pointer (some ⟨rp, 0, none⟩)] W fun e W' => e = .returned (.tuple #[.int .i64 (lowF vs), .int .i64 (takeE vs)]) ∧ Both w n pa rp rq us (takeS vs) W' :=
  (rtake_any rp rq vs W h.rm (by rw [h.lv]; exact h.small)).mono fun _ _ ⟨h1, h2, h3⟩ => ⟨h1, h.r h2 (takeS_length _) h3⟩
theorem t_copy {w : World} {n pa rp rq : Nat} {us vs : List Bool} {W : World} (h : Both w n pa rp rq us vs W) :
    Calls Tryd.prog 17 #[.pointer (some ⟨pa, 0, none⟩)] W fun e W' => ∃ c, e = .returned (.pointer (some ⟨c, 0, none⟩)) ∧ c ≠ pa ∧ Both w n c rp rq us vs W' ∧ Both w n pa rp rq us vs W' :=
  (copy_any pa us W h.pm).mono fun _ _ ⟨h1, h2, h3⟩ => ⟨_, h1, by have := h.pm.lt; omega, ⟨h2, h.rm.keep0 h3, h.grown.size, h.newq, h.lu, h.lv, h.small, gb_trans h.grown h3, h.tab⟩, h.keep0 h3⟩
theorem t_use2 {w : World} {n pa rp rq c : Nat} {us vs us2 : List Bool} {W : World} (i : Int) (hc : c ≠ pa) (h : Both w n c rp rq us vs W) (h2 : Both w n pa rp rq us2 vs W) :
    Calls Tryd.prog 11 #[.pointer (some ⟨pa, 0, none⟩), .int .i64 i] W fun e W' => e = .returned (.int .i64 (useE us2 i)) ∧ Both w n c rp rq us vs W' ∧ Both w n pa rp rq (useS us2 i) vs W' :=
  (use_any pa us2 i W h2.pm (by rw [h2.lu]; exact h2.small)).mono fun _ _ ⟨h1, h3, h4⟩ => ⟨h1, h.other h2 hc h4, h2.p h3 (useS_length _ _) h4⟩
theorem t_give2 {w : World} {n pa rp rq c : Nat} {us vs us2 : List Bool} {W : World} (i : Int) (hc : c ≠ pa) (h : Both w n c rp rq us vs W) (h2 : Both w n pa rp rq us2 vs W) :
    Calls Tryd.prog 13 #[.pointer (some ⟨pa, 0, none⟩), .int .i64 i] W fun e W' => e = .returned (.int .i64 (giveE us2 i)) ∧ Both w n c rp rq us vs W' ∧ Both w n pa rp rq (giveS us2 i) vs W' :=
  (give_any pa us2 i W h2.pm (by rw [h2.lu]; exact h2.small)).mono fun _ _ ⟨h1, h3, h4⟩ => ⟨h1, h.other h2 hc h4, h2.p h3 (giveS_length _ _) h4⟩
theorem t_take2 {w : World} {n pa rp rq c : Nat} {us vs us2 : List Bool} {W : World} (hc : c ≠ pa) (h : Both w n c rp rq us vs W) (h2 : Both w n pa rp rq us2 vs W) :
    Calls Tryd.prog 15 #[.pointer (some ⟨pa, 0, none⟩)] W fun e W' => e = .returned (.tuple #[.int .i64 (lowF us2), .int .i64 (takeE us2)]) ∧ Both w n c rp rq us vs W' ∧ Both w n pa rp rq (takeS us2) vs W' :=
  (take_any pa us2 W h2.pm h2.tabW (by rw [h2.lu]; exact h2.small)).mono fun _ _ ⟨h1, h3, h4⟩ => ⟨h1, h.other h2 hc h4, h2.p h3 (takeS_length _) h4⟩
theorem t_has {w : World} {n pa rp rq : Nat} {us vs : List Bool} {W : World} (i : Int) (h : Both w n pa rp rq us vs W) :
    Calls Tryd.prog 19 #[.pointer (some ⟨pa, 0, none⟩), .int .i64 i] W fun e W' => e = .returned (.bool (hasF us i)) ∧ W = W' := has_any pa us i W h.pm (by rw [h.lu]; exact h.small)
theorem t_rhas {w : World} {n pa rp rq : Nat} {us vs : List Bool} {W : World} (i : Int) (h : Both w n pa rp rq us vs W) :
    Calls Tryd.prog 20 #[.pointer (some ⟨rp, 0, none⟩), .int .i64 i] W fun e W' => e = .returned (.bool (hasF vs i)) ∧ W = W' := rhas_any rp rq vs i W h.rm
theorem t_left {w : World} {n pa rp rq : Nat} {us vs : List Bool} {W : World} (h : Both w n pa rp rq us vs W) :
    Calls Tryd.prog 21 #[.pointer (some ⟨pa, 0, none⟩)] W fun e W' => e = .returned (.int .i64 (leftF us : Nat)) ∧ W = W' := left_any pa us W h.pm (by rw [h.lu]; exact h.small)
theorem t_rleft {w : World} {n pa rp rq : Nat} {us vs : List Bool} {W : World} (h : Both w n pa rp rq us vs W) :
    Calls Tryd.prog 22 #[.pointer (some ⟨rp, 0, none⟩)] W fun e W' => e = .returned (.int .i64 (leftF vs : Nat)) ∧ W = W' := rleft_any rp rq vs W h.rm (by rw [h.lv]; exact h.small)
theorem t_alike {w : World} {n pa rp rq : Nat} {us : List Bool} {W : World} (h : Both w n pa rp rq us us W) :
    Calls Tryd.prog 18 #[.pointer (some ⟨pa, 0, none⟩), .pointer (some ⟨rp, 0, none⟩)] W fun e W' => e = .returned (.bool true) ∧ W.grownBy W' none := alike_any pa rp rq us W h.pm h.rm h.tabW (by rw [h.lu]; exact h.small)
/-- An act: what is done, of which thing. -/
structure Ac where
  what : Nat
  i : Int
def acC1 (a : Ac) : List Value := [.int .u8 (a.what : Nat), .int .i16 a.i]
def acC (l : List Ac) : List Value := l.flatMap acC1
def Acs (w : World) (v : Value) (l : List Ac) : Prop := Sl 2 w v l.length (acC l) ∧ ∀ a ∈ l, a.what < 256 ∧ -32768 ≤ a.i ∧ a.i ≤ 32767
theorem acC_at : ∀ (l : List Ac) (k : Nat) (hk : k < l.length), (acC l)[k * 2]? = some (.int .u8 (l[k].what : Nat)) ∧ (acC l)[k * 2 + 1]? = some (.int .i16 l[k].i)
  | [], k, hk => by cases hk
  | a :: l, 0, _ => ⟨rfl, rfl⟩
  | a :: l, k + 1, hk => by
    have := acC_at l k (by simpa using hk)
    rw [show (k + 1) * 2 = k * 2 + 1 + 1 from by omega]
    exact this
theorem acC_length : ∀ l : List Ac, (acC l).length = l.length * 2
  | [] => rfl
  | a :: l => by
    have := acC_length l
    unfold acC at this ⊢
    rw [List.flatMap_cons, List.length_append, this]
    simp only [acC1, List.length_cons, List.length_nil]
    omega
end Go.Proofs.YtaihcbkdbdhihaaDoor
