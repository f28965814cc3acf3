/-
  How a map of things lies in memory (the program's: a number and sixteen words; the document's: a list of bools), and the smallest calls; no conditions beside those that each law states.
-/
import Derived.Test.YtaihcbkdbdhihaaDoorGb
import Derived.Test.YtaihcbkdbdhihaaDoorMq
import Derived.Test.YtaihcbkdbdhihaaDoorMr
import Derived.Lib.TrailingZeros
import Derived.Laws.Bits64b
import Derived.Laws.BitsAllLaws
import Derived.Laws.ShiftsVarLaws
import Derived.WalkSpells
import Derived.WalkLawsBesides
import Derived.IntWalk
namespace Go.Proofs.YtaihcbkdbdhihaaDoor
open Go.RowKit

/-- The words of a number, as cells. -/
def wordsC (N : Nat) : List Value := (List.range 16).map fun k => .int .u64 (wd N k : Nat)
theorem wordsC_length (N : Nat) : (wordsC N).length = 16 := by simp [wordsC]
theorem wordsC_at (N k : Nat) (hk : k < 16) : (wordsC N)[k]? = some (.int .u64 (wd N k : Nat)) := by unfold wordsC; rw [List.getElem?_map, List.getElem?_range hk]; rfl
def mapC (n N : Nat) : List Value := .int .i64 (n : Nat) :: wordsC N
/-- The program's map: its block. -/
def PM (w : World) (p : Nat) (us : List Bool) : Prop := Blk w p 59 (mapC us.length (natOf us)).toArray
theorem PM.things {w : World} {p : Nat} {us : List Bool} (h : PM w p us) : w.cell? ⟨p, 0, none⟩ = some (.int .i64 (us.length : Nat)) := Blk.cell h 0 (by simp [mapC])
theorem PM.word {w : World} {p : Nat} {us : List Bool} (h : PM w p us) (k : Nat) (hk : k < 16) : w.cell? ⟨p, 1 + k, none⟩ = some (.int .u64 (wd (natOf us) k : Nat)) :=
  Blk.cell h (1 + k) (by simp only [mapC, List.getElem?_toArray, Nat.add_comm 1 k, List.getElem?_cons_succ]; exact wordsC_at _ _ hk)
theorem PM.keep {w w' : World} {p : Nat} {us : List Bool} {r : Option Nat} (h : PM w p us) (g : w.grownBy w' r) (hr : some p ≠ r) : PM w' p us := Blk.keep h g hr
theorem PM.keep0 {w w' : World} {p : Nat} {us : List Bool} (h : PM w p us) (g : w.grownBy w' none) : PM w' p us := Blk.keep0 h g
theorem PM.lt {w : World} {p : Nat} {us : List Bool} (h : PM w p us) : p < w.heap.size := Blk.lt h

theorem int_div_pow (x s : Nat) : (x : Int) / 2 ^ s = ((x / 2 ^ s : Nat) : Int) := by
  rw [show (2 : Int) ^ s = ((2 ^ s : Nat) : Int) from by simp]; exact (Int.natCast_ediv x (2 ^ s)).symm
theorem set_test (N i : Nat) : (bits BinOp.and IntKind.u64 ((wd N (i / 64) : Nat) / 2 ^ (i % 64)) 1 != 0) = N.testBit i := by
  rw [int_div_pow, show (1 : Int) = ((1 : Nat) : Int) from rfl, bits_and_u64_nat _ _ (Nat.lt_of_le_of_lt (Nat.div_le_self _ _) (wd_lt _ _)) (by decide), wd_set]
  cases N.testBit i <;> rfl
theorem ret_bool {a b : Bool} (h : a = b) : Ending.returned (.bool a) = .returned (.bool b) := by rw [h]
theorem ret_int {k : IntKind} {a b : Int} (h : a = b) : Ending.returned (.int k a) = .returned (.int k b) := by rw [h]
set_option maxHeartbeats 400000 in
theorem isSet_any (b o N i : Nat) (w : World) (hi : i < 1024) (hc : w.cell? ⟨b, o + i / 64, none⟩ = some (.int .u64 (wd N (i / 64) : Nat))) :
    Calls Tryd.prog 29 #[.pointer (some ⟨b, o, none⟩), .int .i64 (i : Nat)] w fun e w' => e = .returned (.bool (N.testBit i)) ∧ w = w' := by
  have H := Lib.hid (set_test N i)
  go_enter Tryd.func29, Tryd.ntmps29
  go_wp2
  go_ret
  exact ⟨ret_bool H.out, rfl⟩
theorem mapC_turn (n N i : Nat) (hi : i < 1024) : (mapC n N).toArray.setIfInBounds (1 + i / 64) (.int .u64 (wd N (i / 64) ^^^ 2 ^ (i % 64) : Nat)) = (mapC n (N ^^^ 2 ^ i)).toArray := by
  rw [List.setIfInBounds_toArray]
  congr 1
  refine List.ext_getElem? fun k => ?_
  rw [List.getElem?_set]
  cases k with
  | zero => rw [if_neg (by omega)]; rfl
  | succ k =>
    simp only [mapC, List.getElem?_cons_succ, List.length_cons, wordsC_length]
    rcases Nat.lt_or_ge k 16 with hk | hk
    · rw [wordsC_at _ _ hk, wordsC_at _ _ hk, wd_turn]
      by_cases e : k = i / 64
      · subst e; rw [if_pos (by omega), if_pos (by omega), if_pos rfl]
      · rw [if_neg (by omega), if_neg e]
    · rw [if_neg (by omega), List.getElem?_eq_none (by rw [wordsC_length]; exact hk), List.getElem?_eq_none (by rw [wordsC_length]; exact hk)]
theorem pow_word (i : Nat) : IntKind.u64.wrap (2 ^ (i % 64)) = ((2 ^ (i % 64) : Nat) : Int) := by
  have h := pow_lt64 i
  rw [show (2 : Int) ^ (i % 64) = ((2 ^ (i % 64) : Nat) : Int) from by simp, IntKind.wrap_u64]
  generalize 2 ^ (i % 64) = x at h ⊢
  omega
set_option maxHeartbeats 1000000 in
theorem turn_any (p n N i : Nat) (w : World) (hi : i < 1024) (h : Blk w p 59 (mapC n N).toArray) :
    Calls Tryd.prog 30 #[.pointer (some ⟨p, 1, none⟩), .int .i64 (i : Nat)] w fun e w' => e = .returned (.tuple #[]) ∧ Blk w' p 59 (mapC n (N ^^^ 2 ^ i)).toArray ∧ w.grownBy w' (some p) := by
  have hq : i / 64 < 16 := by omega
  have hc : w.cell? ⟨p, 1 + i / 64, none⟩ = some (.int .u64 (wd N (i / 64) : Nat)) := Blk.cell h (1 + i / 64) (by simp only [mapC, List.getElem?_toArray, Nat.add_comm 1, List.getElem?_cons_succ]; exact wordsC_at _ _ hq)
  have hf := Blk.free h (1 + i / 64)
  have hx : bits BinOp.xor IntKind.u64 (wd N (i / 64) : Nat) (IntKind.u64.wrap (2 ^ (i % 64))) = ((wd N (i / 64) ^^^ 2 ^ (i % 64) : Nat) : Int) := by
    rw [pow_word]
    exact bits_xor_u64_nat _ _ (wd_lt _ _) (pow_lt64 i)
  have hfin : Blk ((w.setCell ⟨p, 1 + i / 64, none⟩ (.int .u64 (bits BinOp.xor IntKind.u64 (wd N (i / 64) : Nat) (IntKind.u64.wrap (2 ^ (i % 64)))))).drew) p 59 (mapC n (N ^^^ 2 ^ i)).toArray := by
    have := Blk.set h (1 + i / 64) (.int .u64 (wd N (i / 64) ^^^ 2 ^ (i % 64) : Nat))
    rw [mapC_turn n N i hi] at this
    rw [hx]
    exact this
  have HF := Lib.hid (And.intro hfin (gb_trans (gb_set w p (1 + i / 64) none (.int .u64 (bits BinOp.xor IntKind.u64 (wd N (i / 64) : Nat) (IntKind.u64.wrap (2 ^ (i % 64)))))) (gb_drew _ _)))
  clear hfin h hx
  go_enter Tryd.func30, Tryd.ntmps30
  go_wp2
  go_region
  all_goals
    go_end0
    exact ⟨rfl, HF.out⟩

/-- Why a thing can't be asked for. -/
def lackE (us : List Bool) (i : Int) : Int := if i < 0 then 2 else if (us.length : Int) ≤ i then 2 else 0
theorem lackE_ok {us : List Bool} {i : Int} (h : lackE us i = 0) : ∃ m : Nat, i = m ∧ m < us.length := by
  unfold lackE at h
  split at h
  · cases h
  · split at h
    · cases h
    · exact ⟨i.toNat, by omega, by omega⟩
theorem lackE_two {us : List Bool} {i : Int} (h : lackE us i ≠ 0) : lackE us i = 2 := by
  unfold lackE at h ⊢
  split at h
  · rename_i h1; rw [if_pos h1]
  · rename_i h1
    split at h
    · rename_i h2; rw [if_neg h1, if_pos h2]
    · exact absurd rfl h
theorem lackE_nat {us : List Bool} {m : Nat} (h : m < us.length) : lackE us (m : Int) = 0 := by
  unfold lackE; rw [if_neg (by omega), if_neg (by omega)]
theorem lacks_any (p : Nat) (us : List Bool) (i : Int) (w : World) (h : PM w p us) :
    Calls Tryd.prog 28 #[.pointer (some ⟨p, 0, none⟩), .int .i64 i] w fun e w' => e = .returned (.int .i64 (lackE us i)) ∧ w = w' := by
  have hc := h.things
  by_cases h1 : i < 0
  · have he : lackE us i = 2 := by unfold lackE; rw [if_pos h1]
    have H := Lib.hid he
    clear he h
    go_enter Tryd.func28, Tryd.ntmps28
    go_wp2
    go_ret
    exact ⟨ret_int H.out.symm, rfl⟩
  · by_cases h2 : (us.length : Int) ≤ i
    · have he : lackE us i = 2 := by unfold lackE; rw [if_neg h1, if_pos h2]
      have H := Lib.hid he
      clear he h
      go_enter Tryd.func28, Tryd.ntmps28
      go_wp2
      go_ret
      exact ⟨ret_int H.out.symm, rfl⟩
    · have he : lackE us i = 0 := by unfold lackE; rw [if_neg h1, if_neg h2]
      have H := Lib.hid he
      clear he h
      go_enter Tryd.func28, Tryd.ntmps28
      go_wp2
      go_ret
      exact ⟨ret_int H.out.symm, rfl⟩
theorem lacks_nil (i : Int) (w : World) :
    Calls Tryd.prog 28 #[.pointer none, .int .i64 i] w fun e w' => e = .returned (.int .i64 1) ∧ w = w' := by
  go_enter Tryd.func28, Tryd.ntmps28
  go_wp2
  go_ret
  exact ⟨rfl, rfl⟩
/-- Is it used? -/
def hasF (us : List Bool) (i : Int) : Bool := decide (0 ≤ i) && us.getD i.toNat false
theorem hasF_nat (us : List Bool) (m : Nat) : hasF us (m : Int) = us.getD m false := by unfold hasF; simp
theorem hasF_no {us : List Bool} {i : Int} (h : lackE us i ≠ 0) : hasF us i = false := by
  unfold lackE at h
  unfold hasF
  by_cases h1 : i < 0
  · rw [decide_eq_false (by omega), Bool.false_and]
  · rw [if_neg h1] at h
    by_cases h2 : (us.length : Int) ≤ i
    · rw [List.getD_eq_getElem?_getD, List.getElem?_eq_none (by omega)]; simp
    · rw [if_neg h2] at h; exact absurd rfl h
def useE (us : List Bool) (i : Int) : Int := if lackE us i ≠ 0 then 2 else if hasF us i then 12 else 0
def giveE (us : List Bool) (i : Int) : Int := if lackE us i ≠ 0 then 2 else if hasF us i then 0 else 13
def useS (us : List Bool) (i : Int) : List Bool := if useE us i = 0 then us.set i.toNat true else us
def giveS (us : List Bool) (i : Int) : List Bool := if giveE us i = 0 then us.set i.toNat false else us
theorem useS_length (us : List Bool) (i : Int) : (useS us i).length = us.length := by unfold useS; split <;> simp
theorem giveS_length (us : List Bool) (i : Int) : (giveS us i).length = us.length := by unfold giveS; split <;> simp
theorem pm_turn {p m : Nat} {us : List Bool} {w : World} (b : Bool) (hm : m < us.length) (hb : us.getD m false = !b) (h : Blk w p 59 (mapC us.length (natOf us ^^^ 2 ^ m)).toArray) : PM w p (us.set m b) := by
  unfold PM
  rw [List.length_set]
  rw [natOf_turn us m hm, hb, Bool.not_not] at h
  exact h
theorem set_any (p m : Nat) (us : List Bool) (w : World) (h : PM w p us) (hm : m < us.length) (hn : us.length ≤ 1024) :
    Calls Tryd.prog 29 #[.pointer (some ⟨p, 1, none⟩), .int .i64 (m : Nat)] w fun e w' => e = .returned (.bool (us.getD m false)) ∧ w = w' := by
  have := isSet_any p 1 (natOf us) m w (by omega) (h.word (m / 64) (by omega))
  rw [natOf_bit] at this
  exact this
set_option maxHeartbeats 400000 in
theorem has_any (p : Nat) (us : List Bool) (i : Int) (w : World) (h : PM w p us) (hn : us.length ≤ 1024) :
    Calls Tryd.prog 19 #[.pointer (some ⟨p, 0, none⟩), .int .i64 i] w fun e w' => e = .returned (.bool (hasF us i)) ∧ w = w' := by
  have HP := Lib.hid h
  clear h
  by_cases h0 : lackE us i = 0
  · obtain ⟨m, rfl, hm⟩ := lackE_ok h0
    rw [hasF_nat]
    obtain ⟨b, hb⟩ : ∃ b, us.getD m false = b := ⟨_, rfl⟩
    rw [hb]
    have HB := Lib.hid hb
    have H0 := Lib.hid h0
    clear hb h0
    go_enter Tryd.func19, Tryd.ntmps19
    go_wp2_with (first
      | (go_at_call 28; (with_reducible refine (lacks_any p us _ _ HP.out).mono ?_); rintro e w' ⟨he, rfl⟩; rw [H0.out] at he; subst he)
      | (go_at_call 29; (with_reducible refine (set_any p m us _ HP.out hm hn).mono ?_); rintro e w' ⟨he, rfl⟩; rw [HB.out] at he; subst he))
    go_ret
    exact ⟨rfl, rfl⟩
  · have H2 := Lib.hid (lackE_two h0)
    rw [hasF_no h0]
    clear h0
    go_enter Tryd.func19, Tryd.ntmps19
    go_wp2_with (go_at_call 28; (with_reducible refine (lacks_any p us _ _ HP.out).mono ?_); rintro e w' ⟨he, rfl⟩; rw [H2.out] at he; subst he)
    go_ret
    exact ⟨rfl, rfl⟩
set_option maxHeartbeats 400000 in
theorem use_any (p : Nat) (us : List Bool) (i : Int) (w : World) (h : PM w p us) (hn : us.length ≤ 1024) :
    Calls Tryd.prog 11 #[.pointer (some ⟨p, 0, none⟩), .int .i64 i] w fun e w' => e = .returned (.int .i64 (useE us i)) ∧ PM w' p (useS us i) ∧ w.grownBy w' (some p) := by
  have HP := Lib.hid h
  by_cases h0 : lackE us i = 0
  · obtain ⟨m, rfl, hm⟩ := lackE_ok h0
    obtain ⟨b, hb⟩ : ∃ b, us.getD m false = b := ⟨_, rfl⟩
    have HB := Lib.hid hb
    have H0 := Lib.hid h0
    cases b
    · have he : useE us (m : Int) = 0 := by unfold useE; rw [if_neg (by simp [h0]), hasF_nat, hb]; rfl
      have hs : useS us (m : Int) = us.set m true := by unfold useS; rw [if_pos he]; simp
      rw [he, hs]
      have HT := Lib.hid (turn_any p us.length (natOf us) m w (by omega) h)
      clear hb h0 he hs h
      go_enter Tryd.func11, Tryd.ntmps11
      go_wp2_with (first
        | (go_at_call 28; (with_reducible refine (lacks_any p us _ _ HP.out).mono ?_); rintro e w' ⟨he, rfl⟩; rw [H0.out] at he; subst he)
        | (go_at_call 29; (with_reducible refine (set_any p m us _ HP.out hm hn).mono ?_); rintro e w' ⟨he, rfl⟩; rw [HB.out] at he; subst he)
        | (go_at_call 30; (with_reducible refine HT.out.mono ?_); rintro e w' ⟨rfl, hb1, g1⟩))
      go_ret
      exact ⟨rfl, pm_turn true hm HB.out hb1, g1⟩
    · have he : useE us (m : Int) = 12 := by unfold useE; rw [if_neg (by simp [h0]), hasF_nat, hb]; rfl
      have hs : useS us (m : Int) = us := by unfold useS; rw [if_neg (by rw [he]; decide)]
      rw [he, hs]
      clear hb h0 he hs h
      go_enter Tryd.func11, Tryd.ntmps11
      go_wp2_with (first
        | (go_at_call 28; (with_reducible refine (lacks_any p us _ _ HP.out).mono ?_); rintro e w' ⟨he, rfl⟩; rw [H0.out] at he; subst he)
        | (go_at_call 29; (with_reducible refine (set_any p m us _ HP.out hm hn).mono ?_); rintro e w' ⟨he, rfl⟩; rw [HB.out] at he; subst he))
      go_ret
      exact ⟨rfl, HP.out, gb_refl _ _⟩
  · have H2 := Lib.hid (lackE_two h0)
    have he : useE us i = 2 := by unfold useE; rw [if_pos h0]
    have hs : useS us i = us := by unfold useS; rw [if_neg (by rw [he]; decide)]
    rw [he, hs]
    clear h0 he hs h
    go_enter Tryd.func11, Tryd.ntmps11
    go_wp2_with (go_at_call 28; (with_reducible refine (lacks_any p us _ _ HP.out).mono ?_); rintro e w' ⟨he, rfl⟩; rw [H2.out] at he; subst he)
    go_ret
    exact ⟨rfl, HP.out, gb_refl _ _⟩
set_option maxHeartbeats 400000 in
theorem give_any (p : Nat) (us : List Bool) (i : Int) (w : World) (h : PM w p us) (hn : us.length ≤ 1024) :
    Calls Tryd.prog 13 #[.pointer (some ⟨p, 0, none⟩), .int .i64 i] w fun e w' => e = .returned (.int .i64 (giveE us i)) ∧ PM w' p (giveS us i) ∧ w.grownBy w' (some p) := by
  have HP := Lib.hid h
  by_cases h0 : lackE us i = 0
  · obtain ⟨m, rfl, hm⟩ := lackE_ok h0
    obtain ⟨b, hb⟩ : ∃ b, us.getD m false = b := ⟨_, rfl⟩
    have HB := Lib.hid hb
    have H0 := Lib.hid h0
    cases b
    · have he : giveE us (m : Int) = 13 := by unfold giveE; rw [if_neg (by simp [h0]), hasF_nat, hb]; rfl
      have hs : giveS us (m : Int) = us := by unfold giveS; rw [if_neg (by rw [he]; decide)]
      rw [he, hs]
      clear hb h0 he hs h
      go_enter Tryd.func13, Tryd.ntmps13
      go_wp2_with (first
        | (go_at_call 28; (with_reducible refine (lacks_any p us _ _ HP.out).mono ?_); rintro e w' ⟨he, rfl⟩; rw [H0.out] at he; subst he)
        | (go_at_call 29; (with_reducible refine (set_any p m us _ HP.out hm hn).mono ?_); rintro e w' ⟨he, rfl⟩; rw [HB.out] at he; subst he))
      go_ret
      exact ⟨rfl, HP.out, gb_refl _ _⟩
    · have he : giveE us (m : Int) = 0 := by unfold giveE; rw [if_neg (by simp [h0]), hasF_nat, hb]; rfl
      have hs : giveS us (m : Int) = us.set m false := by unfold giveS; rw [if_pos he]; simp
      rw [he, hs]
      have HT := Lib.hid (turn_any p us.length (natOf us) m w (by omega) h)
      clear hb h0 he hs h
      go_enter Tryd.func13, Tryd.ntmps13
      go_wp2_with (first
        | (go_at_call 28; (with_reducible refine (lacks_any p us _ _ HP.out).mono ?_); rintro e w' ⟨he, rfl⟩; rw [H0.out] at he; subst he)
        | (go_at_call 29; (with_reducible refine (set_any p m us _ HP.out hm hn).mono ?_); rintro e w' ⟨he, rfl⟩; rw [HB.out] at he; subst he)
        | (go_at_call 30; (with_reducible refine HT.out.mono ?_); rintro e w' ⟨rfl, hb1, g1⟩))
      go_ret
      exact ⟨rfl, pm_turn false hm HB.out hb1, g1⟩
  · have H2 := Lib.hid (lackE_two h0)
    have he : giveE us i = 2 := by unfold giveE; rw [if_pos h0]
    have hs : giveS us i = us := by unfold giveS; rw [if_neg (by rw [he]; decide)]
    rw [he, hs]
    clear h0 he hs h
    go_enter Tryd.func13, Tryd.ntmps13
    go_wp2_with (go_at_call 28; (with_reducible refine (lacks_any p us _ _ HP.out).mono ?_); rintro e w' ⟨he, rfl⟩; rw [H2.out] at he; subst he)
    go_ret
    exact ⟨rfl, HP.out, gb_refl _ _⟩
end Go.Proofs.YtaihcbkdbdhihaaDoor
