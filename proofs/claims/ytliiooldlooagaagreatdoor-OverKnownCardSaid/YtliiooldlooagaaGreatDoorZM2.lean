/-
  Texts of one layer, one behind the other, each with its own sentence; conditions: those that each law states.
-/
import Derived.Lib.TrailingZeros
import Derived.Laws.Bits64b
import Derived.Laws.BitsAllLaws
import Derived.Laws.ShiftsVarLaws
import Derived.WalkSpells
import Derived.WalkLawsBesides
import Derived.IntWalk
import Derived.Test.YtliiooldlooagaaGreatDoorZM1
import Derived.Test.YtliiooldlooagaaGreatDoorZROOT1
set_option linter.unusedSimpArgs false
set_option linter.unusedVariables false

/-
  How a map of things lies in memory (the program's: a number and sixteen words; the document's: a list of bools), and the smallest calls; no conditions beside those that each law states.
-/
namespace Go.Proofs.YtliiooldlooagaaGreatDoor.M6
open Go.RowKit

/-- The words of a number, as cells. -/
def wordsC (N : Nat) : List Value := (List.range 16).map fun k => .int .u64 (wd N k : Nat)
theorem wordsC_length (N : Nat) : (wordsC N).length = 16 := by simp [wordsC]
theorem wordsC_at (N k : Nat) (hk : k < 16) : (wordsC N)[k]? = some (.int .u64 (wd N k : Nat)) := by unfold wordsC; rw [List.getElem?_map, List.getElem?_range hk]; rfl
def mapC (n N : Nat) : List Value := .int .i64 (n : Nat) :: wordsC N
/-- The program's map: its block. -/
def PM (w : World) (p : Nat) (us : List Bool) : Prop := Blk w p 146 (mapC us.length (natOf us)).toArray
theorem PM.things {w : World} {p : Nat} {us : List Bool} (h : PM w p us) : w.cell? ⟨p, 0, none⟩ = some (.int .i64 (us.length : Nat)) := Blk.cell h 0 (by simp [mapC])
theorem PM.word {w : World} {p : Nat} {us : List Bool} (h : PM w p us) (k : Nat) (hk : k < 16) : w.cell? ⟨p, 1 + k, none⟩ = some (.int .u64 (wd (natOf us) k : Nat)) :=
  Blk.cell h (1 + k) (by simp only [mapC, List.getElem?_toArray, Nat.add_comm 1 k, List.getElem?_cons_succ]; exact wordsC_at _ _ hk)
theorem PM.keep {w w' : World} {p : Nat} {us : List Bool} {r : Option Nat} (h : PM w p us) (g : w.grownBy w' r) (hr : some p ≠ r) : PM w' p us := Blk.keep h g hr
theorem PM.keep0 {w w' : World} {p : Nat} {us : List Bool} (h : PM w p us) (g : w.grownBy w' none) : PM w' p us := Blk.keep0 h g
theorem PM.lt {w : World} {p : Nat} {us : List Bool} (h : PM w p us) : p < w.heap.size := Blk.lt h

theorem int_div_pow (x s : Nat) : (x : Int) / 2 ^ s = ((x / 2 ^ s : Nat) : Int) := by
  rw [show (2 : Int) ^ s = ((2 ^ s : Nat) : Int) from by simp]; exact (Int.natCast_ediv x (2 ^ s)).symm
theorem set_test (N i : Nat) : (bits BinOp.and IntKind.u64 ((wd N (i / 64) : Nat) / 2 ^ (i % 64)) 1 != 0) = N.testBit i := by
  rw [int_div_pow, show (1 : Int) = ((1 : Nat) : Int) from rfl, bits_and_u64_nat _ _ (Nat.lt_of_le_of_lt (Nat.div_le_self _ _) (wd_lt _ _)) (by decide), wd_set]
  cases N.testBit i <;> rfl
theorem ret_bool {a b : Bool} (h : a = b) : Ending.returned (.bool a) = .returned (.bool b) := by rw [h]
theorem ret_int {k : IntKind} {a b : Int} (h : a = b) : Ending.returned (.int k a) = .returned (.int k b) := by rw [h]
set_option maxHeartbeats 400000 in
theorem isSet_any (b o N i : Nat) (w : World) (hi : i < 1024) (hc : w.cell? ⟨b, o + i / 64, none⟩ = some (.int .u64 (wd N (i / 64) : Nat))) :
    Calls Tryz.prog 82 #[.pointer (some ⟨b, o, none⟩), .int .i64 (i : Nat)] w fun e w' => e = .returned (.bool (N.testBit i)) ∧ w = w' := by
  have H := Lib.hid (set_test N i)
  go_enter Tryz.func82, Tryz.ntmps82
  go_wp2
  go_ret
  exact ⟨ret_bool H.out, rfl⟩
theorem mapC_turn (n N i : Nat) (hi : i < 1024) : (mapC n N).toArray.setIfInBounds (1 + i / 64) (.int .u64 (wd N (i / 64) ^^^ 2 ^ (i % 64) : Nat)) = (mapC n (N ^^^ 2 ^ i)).toArray := by
  rw [List.setIfInBounds_toArray]
  congr 1
  refine List.ext_getElem? fun k => ?_
  rw [List.getElem?_set]
  cases k with
  | zero => rw [if_neg (by omega)]; rfl
  | succ k =>
    simp only [mapC, List.getElem?_cons_succ, List.length_cons, wordsC_length]
    rcases Nat.lt_or_ge k 16 with hk | hk
    · rw [wordsC_at _ _ hk, wordsC_at _ _ hk, wd_turn]
      by_cases e : k = i / 64
      · subst e; rw [if_pos (by omega), if_pos (by omega), if_pos rfl]
      · rw [if_neg (by omega), if_neg e]
    · rw [if_neg (by omega), List.getElem?_eq_none (by rw [wordsC_length]; exact hk), List.getElem?_eq_none (by rw [wordsC_length]; exact hk)]
theorem pow_word (i : Nat) : IntKind.u64.wrap (2 ^ (i % 64)) = ((2 ^ (i % 64) : Nat) : Int) := by
  have h := pow_lt64 i
  rw [show (2 : Int) ^ (i % 64) = ((2 ^ (i % 64) : Nat) : Int) from by simp, IntKind.wrap_u64]
  generalize 2 ^ (i % 64) = x at h ⊢
  omega
set_option maxHeartbeats 1000000 in
theorem turn_any (p n N i : Nat) (w : World) (hi : i < 1024) (h : Blk w p 146 (mapC n N).toArray) :
    Calls Tryz.prog 83 #[.pointer (some ⟨p, 1, none⟩), .int .i64 (i : Nat)] w fun e w' => e = .returned (.tuple #[]) ∧ Blk w' p 146 (mapC n (N ^^^ 2 ^ i)).toArray ∧ w.grownBy w' (some p) := by
  have hq : i / 64 < 16 := by omega
  have hc : w.cell? ⟨p, 1 + i / 64, none⟩ = some (.int .u64 (wd N (i / 64) : Nat)) := Blk.cell h (1 + i / 64) (by simp only [mapC, List.getElem?_toArray, Nat.add_comm 1, List.getElem?_cons_succ]; exact wordsC_at _ _ hq)
  have hf := Blk.free h (1 + i / 64)
  have hx : bits BinOp.xor IntKind.u64 (wd N (i / 64) : Nat) (IntKind.u64.wrap (2 ^ (i % 64))) = ((wd N (i / 64) ^^^ 2 ^ (i % 64) : Nat) : Int) := by
    rw [pow_word]
    exact bits_xor_u64_nat _ _ (wd_lt _ _) (pow_lt64 i)
  have hfin : Blk ((w.setCell ⟨p, 1 + i / 64, none⟩ (.int .u64 (bits BinOp.xor IntKind.u64 (wd N (i / 64) : Nat) (IntKind.u64.wrap (2 ^ (i % 64)))))).drew) p 146 (mapC n (N ^^^ 2 ^ i)).toArray := by
    have := Blk.set h (1 + i / 64) (.int .u64 (wd N (i / 64) ^^^ 2 ^ (i % 64) : Nat))
    rw [mapC_turn n N i hi] at this
    rw [hx]
    exact this
  have HF := Lib.hid (And.intro hfin (gb_trans (gb_set w p (1 + i / 64) none (.int .u64 (bits BinOp.xor IntKind.u64 (wd N (i / 64) : Nat) (IntKind.u64.wrap (2 ^ (i % 64)))))) (gb_drew _ _)))
  clear hfin h hx
  go_enter Tryz.func83, Tryz.ntmps83
  go_wp2
  go_region
  all_goals
    go_end0
    exact ⟨rfl, HF.out⟩

/-- Why a thing can't be asked for. -/
def lackE (us : List Bool) (i : Int) : Int := if i < 0 then 2 else if (us.length : Int) ≤ i then 2 else 0
theorem lackE_ok {us : List Bool} {i : Int} (h : lackE us i = 0) : ∃ m : Nat, i = m ∧ m < us.length := by
  unfold lackE at h
  split at h
  · cases h
  · split at h
    · cases h
    · exact ⟨i.toNat, by omega, by omega⟩
theorem lackE_two {us : List Bool} {i : Int} (h : lackE us i ≠ 0) : lackE us i = 2 := by
  unfold lackE at h ⊢
  split at h
  · rename_i h1; rw [if_pos h1]
  · rename_i h1
    split at h
    · rename_i h2; rw [if_neg h1, if_pos h2]
    · exact absurd rfl h
theorem lackE_nat {us : List Bool} {m : Nat} (h : m < us.length) : lackE us (m : Int) = 0 := by
  unfold lackE; rw [if_neg (by omega), if_neg (by omega)]
theorem lacks_any (p : Nat) (us : List Bool) (i : Int) (w : World) (h : PM w p us) :
    Calls Tryz.prog 81 #[.pointer (some ⟨p, 0, none⟩), .int .i64 i] w fun e w' => e = .returned (.int .i64 (lackE us i)) ∧ w = w' := by
  have hc := h.things
  by_cases h1 : i < 0
  · have he : lackE us i = 2 := by unfold lackE; rw [if_pos h1]
    have H := Lib.hid he
    clear he h
    go_enter Tryz.func81, Tryz.ntmps81
    go_wp2
    go_ret
    exact ⟨ret_int H.out.symm, rfl⟩
  · by_cases h2 : (us.length : Int) ≤ i
    · have he : lackE us i = 2 := by unfold lackE; rw [if_neg h1, if_pos h2]
      have H := Lib.hid he
      clear he h
      go_enter Tryz.func81, Tryz.ntmps81
      go_wp2
      go_ret
      exact ⟨ret_int H.out.symm, rfl⟩
    · have he : lackE us i = 0 := by unfold lackE; rw [if_neg h1, if_neg h2]
      have H := Lib.hid he
      clear he h
      go_enter Tryz.func81, Tryz.ntmps81
      go_wp2
      go_ret
      exact ⟨ret_int H.out.symm, rfl⟩
theorem lacks_nil (i : Int) (w : World) :
    Calls Tryz.prog 81 #[.pointer none, .int .i64 i] w fun e w' => e = .returned (.int .i64 1) ∧ w = w' := by
  go_enter Tryz.func81, Tryz.ntmps81
  go_wp2
  go_ret
  exact ⟨rfl, rfl⟩
/-- Is it used? -/
def hasF (us : List Bool) (i : Int) : Bool := decide (0 ≤ i) && us.getD i.toNat false
theorem hasF_nat (us : List Bool) (m : Nat) : hasF us (m : Int) = us.getD m false := by unfold hasF; simp
theorem hasF_no {us : List Bool} {i : Int} (h : lackE us i ≠ 0) : hasF us i = false := by
  unfold lackE at h
  unfold hasF
  by_cases h1 : i < 0
  · rw [decide_eq_false (by omega), Bool.false_and]
  · rw [if_neg h1] at h
    by_cases h2 : (us.length : Int) ≤ i
    · rw [List.getD_eq_getElem?_getD, List.getElem?_eq_none (by omega)]; simp
    · rw [if_neg h2] at h; exact absurd rfl h
def useE (us : List Bool) (i : Int) : Int := if lackE us i ≠ 0 then 2 else if hasF us i then 12 else 0
def giveE (us : List Bool) (i : Int) : Int := if lackE us i ≠ 0 then 2 else if hasF us i then 0 else 13
def useS (us : List Bool) (i : Int) : List Bool := if useE us i = 0 then us.set i.toNat true else us
def giveS (us : List Bool) (i : Int) : List Bool := if giveE us i = 0 then us.set i.toNat false else us
theorem useS_length (us : List Bool) (i : Int) : (useS us i).length = us.length := by unfold useS; split <;> simp
theorem giveS_length (us : List Bool) (i : Int) : (giveS us i).length = us.length := by unfold giveS; split <;> simp
theorem pm_turn {p m : Nat} {us : List Bool} {w : World} (b : Bool) (hm : m < us.length) (hb : us.getD m false = !b) (h : Blk w p 146 (mapC us.length (natOf us ^^^ 2 ^ m)).toArray) : PM w p (us.set m b) := by
  unfold PM
  rw [List.length_set]
  rw [natOf_turn us m hm, hb, Bool.not_not] at h
  exact h
theorem set_any (p m : Nat) (us : List Bool) (w : World) (h : PM w p us) (hm : m < us.length) (hn : us.length ≤ 1024) :
    Calls Tryz.prog 82 #[.pointer (some ⟨p, 1, none⟩), .int .i64 (m : Nat)] w fun e w' => e = .returned (.bool (us.getD m false)) ∧ w = w' := by
  have := isSet_any p 1 (natOf us) m w (by omega) (h.word (m / 64) (by omega))
  rw [natOf_bit] at this
  exact this
set_option maxHeartbeats 400000 in
theorem use_any (p : Nat) (us : List Bool) (i : Int) (w : World) (h : PM w p us) (hn : us.length ≤ 1024) :
    Calls Tryz.prog 94 #[.pointer (some ⟨p, 0, none⟩), .int .i64 i] w fun e w' => e = .returned (.int .i64 (useE us i)) ∧ PM w' p (useS us i) ∧ w.grownBy w' (some p) := by
  have HP := Lib.hid h
  by_cases h0 : lackE us i = 0
  · obtain ⟨m, rfl, hm⟩ := lackE_ok h0
    obtain ⟨b, hb⟩ : ∃ b, us.getD m false = b := ⟨_, rfl⟩
    have HB := Lib.hid hb
    have H0 := Lib.hid h0
    cases b
    · have he : useE us (m : Int) = 0 := by unfold useE; rw [if_neg (by simp [h0]), hasF_nat, hb]; rfl
      have hs : useS us (m : Int) = us.set m true := by unfold useS; rw [if_pos he]; simp
      rw [he, hs]
      have HT := Lib.hid (turn_any p us.length (natOf us) m w (by omega) h)
      clear hb h0 he hs h
      go_enter Tryz.func94, Tryz.ntmps94
      go_wp2_with (first
        | (go_at_call 81; (with_reducible refine (lacks_any p us _ _ HP.out).mono ?_); rintro e w' ⟨he, rfl⟩; rw [H0.out] at he; subst he)
        | (go_at_call 82; (with_reducible refine (set_any p m us _ HP.out hm hn).mono ?_); rintro e w' ⟨he, rfl⟩; rw [HB.out] at he; subst he)
        | (go_at_call 83; (with_reducible refine HT.out.mono ?_); rintro e w' ⟨rfl, hb1, g1⟩))
      go_ret
      exact ⟨rfl, pm_turn true hm HB.out hb1, g1⟩
    · have he : useE us (m : Int) = 12 := by unfold useE; rw [if_neg (by simp [h0]), hasF_nat, hb]; rfl
      have hs : useS us (m : Int) = us := by unfold useS; rw [if_neg (by rw [he]; decide)]
      rw [he, hs]
      clear hb h0 he hs h
      go_enter Tryz.func94, Tryz.ntmps94
      go_wp2_with (first
        | (go_at_call 81; (with_reducible refine (lacks_any p us _ _ HP.out).mono ?_); rintro e w' ⟨he, rfl⟩; rw [H0.out] at he; subst he)
        | (go_at_call 82; (with_reducible refine (set_any p m us _ HP.out hm hn).mono ?_); rintro e w' ⟨he, rfl⟩; rw [HB.out] at he; subst he))
      go_ret
      exact ⟨rfl, HP.out, gb_refl _ _⟩
  · have H2 := Lib.hid (lackE_two h0)
    have he : useE us i = 2 := by unfold useE; rw [if_pos h0]
    have hs : useS us i = us := by unfold useS; rw [if_neg (by rw [he]; decide)]
    rw [he, hs]
    clear h0 he hs h
    go_enter Tryz.func94, Tryz.ntmps94
    go_wp2_with (go_at_call 81; (with_reducible refine (lacks_any p us _ _ HP.out).mono ?_); rintro e w' ⟨he, rfl⟩; rw [H2.out] at he; subst he)
    go_ret
    exact ⟨rfl, HP.out, gb_refl _ _⟩
set_option maxHeartbeats 400000 in
theorem give_any (p : Nat) (us : List Bool) (i : Int) (w : World) (h : PM w p us) (hn : us.length ≤ 1024) :
    Calls Tryz.prog 47 #[.pointer (some ⟨p, 0, none⟩), .int .i64 i] w fun e w' => e = .returned (.int .i64 (giveE us i)) ∧ PM w' p (giveS us i) ∧ w.grownBy w' (some p) := by
  have HP := Lib.hid h
  by_cases h0 : lackE us i = 0
  · obtain ⟨m, rfl, hm⟩ := lackE_ok h0
    obtain ⟨b, hb⟩ : ∃ b, us.getD m false = b := ⟨_, rfl⟩
    have HB := Lib.hid hb
    have H0 := Lib.hid h0
    cases b
    · have he : giveE us (m : Int) = 13 := by unfold giveE; rw [if_neg (by simp [h0]), hasF_nat, hb]; rfl
      have hs : giveS us (m : Int) = us := by unfold giveS; rw [if_neg (by rw [he]; decide)]
      rw [he, hs]
      clear hb h0 he hs h
      go_enter Tryz.func47, Tryz.ntmps47
      go_wp2_with (first
        | (go_at_call 81; (with_reducible refine (lacks_any p us _ _ HP.out).mono ?_); rintro e w' ⟨he, rfl⟩; rw [H0.out] at he; subst he)
        | (go_at_call 82; (with_reducible refine (set_any p m us _ HP.out hm hn).mono ?_); rintro e w' ⟨he, rfl⟩; rw [HB.out] at he; subst he))
      go_ret
      exact ⟨rfl, HP.out, gb_refl _ _⟩
    · have he : giveE us (m : Int) = 0 := by unfold giveE; rw [if_neg (by simp [h0]), hasF_nat, hb]; rfl
      have hs : giveS us (m : Int) = us.set m false := by unfold giveS; rw [if_pos he]; simp
      rw [he, hs]
      have HT := Lib.hid (turn_any p us.length (natOf us) m w (by omega) h)
      clear hb h0 he hs h
      go_enter Tryz.func47, Tryz.ntmps47
      go_wp2_with (first
        | (go_at_call 81; (with_reducible refine (lacks_any p us _ _ HP.out).mono ?_); rintro e w' ⟨he, rfl⟩; rw [H0.out] at he; subst he)
        | (go_at_call 82; (with_reducible refine (set_any p m us _ HP.out hm hn).mono ?_); rintro e w' ⟨he, rfl⟩; rw [HB.out] at he; subst he)
        | (go_at_call 83; (with_reducible refine HT.out.mono ?_); rintro e w' ⟨rfl, hb1, g1⟩))
      go_ret
      exact ⟨rfl, pm_turn false hm HB.out hb1, g1⟩
  · have H2 := Lib.hid (lackE_two h0)
    have he : giveE us i = 2 := by unfold giveE; rw [if_pos h0]
    have hs : giveS us i = us := by unfold giveS; rw [if_neg (by rw [he]; decide)]
    rw [he, hs]
    clear h0 he hs h
    go_enter Tryz.func47, Tryz.ntmps47
    go_wp2_with (go_at_call 81; (with_reducible refine (lacks_any p us _ _ HP.out).mono ?_); rintro e w' ⟨he, rfl⟩; rw [H2.out] at he; subst he)
    go_ret
    exact ⟨rfl, HP.out, gb_refl _ _⟩
end Go.Proofs.YtliiooldlooagaaGreatDoor.M6

/-
  What is asked of a word: how many bits are set, which is the lowest one; and the map's next thing, its count, its copy, over this seat's translation; condition: the table of math/bits reads as the library lays it.
-/
namespace Go.Proofs.YtliiooldlooagaaGreatDoor.M6
open Go.RowKit

/-- The library's table. -/
def Tab (w : World) : Prop := ∀ j, j < 64 → w.cell? ⟨2, j, none⟩ = some (.int .u8 (Lib.deBruijn64tab.getD j 0 : Nat))
theorem Tab.keep0 {w w' : World} (h : Tab w) (g : w.grownBy w' none) : Tab w' := fun k hk => g.cell (h k hk) (by simp)
theorem tab_far {w : World} {p : Nat} {us : List Bool} (h : Tab w) (hp : PM w p us) : p ≠ 2 := by
  rintro rfl
  have h1 := h 0 (by decide)
  rw [hp.things] at h1
  cases h1
theorem Tab.keepP {w w' : World} {p : Nat} {us : List Bool} (h : Tab w) (hp : PM w p us) (g : w.grownBy w' (some p)) : Tab w' := fun k hk => g.cell (h k hk) (by intro e; exact tab_far h hp (Option.some.inj e).symm)
theorem tz_key (x a : Nat) (hx : x < 18446744073709551616) (hx0 : x ≠ 0) (hlow : x &&& (18446744073709551616 - x) = a) :
    IntKind.u64.wrap (bits BinOp.and IntKind.u64 (x : Int) (IntKind.u64.wrap (-(x : Int))) * 285870213051353865) / 288230376151711744 = ((a * 285870213051353865 % 18446744073709551616 / 288230376151711744 : Nat) : Int) := by
  have e1 : IntKind.u64.wrap (-(x : Int)) = ((18446744073709551616 - x : Nat) : Int) := by rw [IntKind.wrap_u64]; omega
  rw [e1, bits_and_u64_nat x _ hx (by omega), hlow, IntKind.wrap_u64]
  omega
set_option maxHeartbeats 1000000 in
theorem tz_core (x k idx : Nat) (w : World) (hx0 : ((x : Int) == 0) = false)
    (key : IntKind.u64.wrap (bits BinOp.and IntKind.u64 (x : Int) (IntKind.u64.wrap (-(x : Int))) * 285870213051353865) / 288230376151711744 = (idx : Int))
    (hi : idx < 64) (hk : k < 64) (hcell : w.cell? ⟨2, idx, none⟩ = some (.int .u8 k)) :
    Calls Tryz.prog 132 #[.int .u64 x] w fun e w' => e = .returned (.int .i64 k) ∧ w = w' := by
  go_enter Tryz.func132, Tryz.ntmps132
  go_wp2_with (simp only [key])
  go_ret
  exact ⟨rfl, rfl⟩
theorem tz_any (x : Nat) (w : World) (hx : x < 18446744073709551616) (h0 : x ≠ 0) (hT : Tab w) :
    Calls Tryz.prog 132 #[.int .u64 (x : Nat)] w fun e w' => e = .returned (.int .i64 (Lib.ctz 64 x : Nat)) ∧ w = w' := by
  obtain ⟨hlow, hk⟩ := Lib.lowest_bit 64 x h0 hx
  obtain ⟨hi, htab⟩ := Lib.deBruijn64_at _ hk
  have hcell := hT _ hi
  rw [htab] at hcell
  exact tz_core x _ _ w (by simp; omega) (tz_key x _ hx h0 hlow) hi hk hcell
theorem i64_and_127 (x : Nat) (hx : x < 9223372036854775808) : bits BinOp.and IntKind.i64 (x : Int) 127 = ((x % 128 : Nat) : Int) := by
  have h1 : (BitVec.ofInt 64 (x : Int)).toNat = x := by
    rw [BitVec.ofInt_natCast, BitVec.toNat_ofNat]; exact Nat.mod_eq_of_lt (by omega)
  have h2 : (BitVec.ofInt 64 (127 : Int)).toNat = 127 := by decide
  have h3 : x &&& 127 = x % 128 := Nat.and_two_pow_sub_one_eq_mod x 7
  show IntKind.i64.wrap ((BitVec.ofInt 64 (x : Int) &&& BitVec.ofInt 64 (127 : Int)).toNat : Int) = _
  rw [BitVec.toNat_and, h1, h2, h3]
  exact IntWalk.i64_in _ (by omega)
theorem u64_and' (a b : Nat) (c : Int) (hc : c = (b : Int)) (ha : a < 18446744073709551616) (hb : b < 18446744073709551616) : bits .and .u64 (a : Int) c = ((a &&& b : Nat) : Int) := by
  subst hc; exact bits_and_u64_nat a b ha hb
theorem u64_wrap' (n : Int) (m : Nat) (h : n = (m : Int)) (hm : m < 18446744073709551616) : IntKind.u64.wrap n = (m : Int) := by
  subst h; rw [IntKind.wrap_u64]; omega
set_option maxHeartbeats 1000000 in
theorem pop_any (x : Nat) (w : World) (hx : x < 18446744073709551616) :
    Calls Tryz.prog 73 #[.int .u64 (x : Nat)] w fun e w' => e = .returned (.int .i64 (ones x 64 : Nat)) ∧ w = w' := by
  obtain ⟨h0, h1, h2, h3, h4⟩ := pop_parts x hx
  have a1 : bits .and .u64 ((x : Int) / 2) 6148914691236517205 = ((x / 2 &&& 6148914691236517205 : Nat) : Int) := u64_and' (x / 2) 6148914691236517205 _ rfl (by omega) (by omega)
  have a2 : bits .and .u64 (x : Int) 6148914691236517205 = ((x &&& 6148914691236517205 : Nat) : Int) := u64_and' x 6148914691236517205 _ rfl (by omega) (by omega)
  have a3 : IntKind.u64.wrap (((x / 2 &&& 6148914691236517205 : Nat) : Int) + ((x &&& 6148914691236517205 : Nat) : Int)) = ((p1 x : Nat) : Int) := u64_wrap' _ (p1 x) (by unfold p1; omega) h1
  generalize p1 x = y at h0 h1 h2 h3 h4 a3
  have b1 : bits .and .u64 ((y : Int) / 4) 3689348814741910323 = ((y / 4 &&& 3689348814741910323 : Nat) : Int) := u64_and' (y / 4) 3689348814741910323 _ rfl (by omega) (by omega)
  have b2 : bits .and .u64 (y : Int) 3689348814741910323 = ((y &&& 3689348814741910323 : Nat) : Int) := u64_and' y 3689348814741910323 _ rfl (by omega) (by omega)
  have b3 : IntKind.u64.wrap (((y / 4 &&& 3689348814741910323 : Nat) : Int) + ((y &&& 3689348814741910323 : Nat) : Int)) = ((p2 y : Nat) : Int) := u64_wrap' _ (p2 y) (by unfold p2; omega) h2
  generalize p2 y = z at h0 h2 h3 h4 b3
  have c1 : IntKind.u64.wrap ((z : Int) / 16 + (z : Int)) = ((z / 16 + z : Nat) : Int) := u64_wrap' _ (z / 16 + z) (by omega) h3
  have c2 : bits .and .u64 ((z / 16 + z : Nat) : Int) 1085102592571150095 = ((p3 z : Nat) : Int) := u64_and' (z / 16 + z) 1085102592571150095 _ rfl h3 (by omega)
  generalize p3 z = u at h0 h4 c2
  generalize hzz : z / 16 + z = zz at c1 c2
  have d1 : IntKind.u64.wrap ((u : Int) + (u : Int) / 256) = ((u + u / 256 : Nat) : Int) := u64_wrap' _ (u + u / 256) (by omega) (by omega)
  have d2 : IntKind.u64.wrap (((u + u / 256 : Nat) : Int) + ((u + u / 256 : Nat) : Int) / 65536) = (((u + u / 256) + (u + u / 256) / 65536 : Nat) : Int) := u64_wrap' _ ((u + u / 256) + (u + u / 256) / 65536) (by omega) (by omega)
  have d3 : IntKind.u64.wrap ((((u + u / 256) + (u + u / 256) / 65536 : Nat) : Int) + (((u + u / 256) + (u + u / 256) / 65536 : Nat) : Int) / 4294967296) = ((((u + u / 256) + (u + u / 256) / 65536) + ((u + u / 256) + (u + u / 256) / 65536) / 4294967296 : Nat) : Int) := u64_wrap' _ (((u + u / 256) + (u + u / 256) / 65536) + ((u + u / 256) + (u + u / 256) / 65536) / 4294967296) (by omega) (by omega)
  have hl : (((u + u / 256) + (u + u / 256) / 65536) + ((u + u / 256) + (u + u / 256) / 65536) / 4294967296) % 128 = ones x 64 := h0
  have hv : (((u + u / 256) + (u + u / 256) / 65536) + ((u + u / 256) + (u + u / 256) / 65536) / 4294967296) < 9223372036854775808 := by omega
  generalize (((u + u / 256) + (u + u / 256) / 65536) + ((u + u / 256) + (u + u / 256) / 65536) / 4294967296) = v3 at d3 hl hv
  generalize ((u + u / 256) + (u + u / 256) / 65536) = v2 at d2 d3
  generalize (u + u / 256) = v1 at d1 d2
  have d4 : IntKind.i64.wrap (v3 : Int) = (v3 : Int) := IntWalk.i64_in _ (by omega)
  have d5 := i64_and_127 v3 hv
  generalize (x / 2 &&& 6148914691236517205) = q1 at a1 a3
  generalize (x &&& 6148914691236517205) = q2 at a2 a3
  generalize (y / 4 &&& 3689348814741910323) = q3 at b1 b3
  generalize (y &&& 3689348814741910323) = q4 at b2 b3
  have HL := Lib.hid hl
  clear h0 h1 h2 h3 h4 hl hzz hv hx
  go_enter Tryz.func73, Tryz.ntmps73
  go_wp2
  go_ret
  exact ⟨ret_int (by have := HL.out; omega), rfl⟩
theorem add_at (p o j : Nat) : (⟨p, o, none⟩ : Addr).add j = ⟨p, o + j, none⟩ := by unfold Addr.add; split <;> simp_all
/-- A load of whatever a run of it answers. -/
theorem wp_load_at {P : Program} {o : Oper} {a : Act} {w : World} {K : Act → World → Prop} {Q : Exit → Act → World → Prop} (ty : TypeId) (x : Operand) (ho : o.op = .load ty x)
    (ad : Addr) (hx : a.eval x = .pointer (some ad)) (v : Value) (hr : (loadVar ty ad).run P w = .ok v w) (h : K (a.put o.dst v) w) : o.wp P a w K Q := by
  unfold Oper.wp execOp
  simp only [ho, hx, Instr.loadAt, Instr.sureAddr, Sem.run_bind, Sem.run_pure, Result.andThen_ok, hr]
  exact h
theorem wpList_load_at {P : Program} {ops : Array Oper} {rest : List Oper} {o : Oper} {a : Act} {w : World} {Q : Exit → Act → World → Prop} (hgd : o.guard = none) (ty : TypeId) (x : Operand) (ho : o.op = .load ty x)
    (ad : Addr) (hx : a.eval x = .pointer (some ad)) (v : Value) (hr : (loadVar ty ad).run P w = .ok v w) (h : wpList P ops Q rest (a.put o.dst v) w) : wpList P ops Q (o :: rest) a w :=
  wpList_plain hgd fun _ hK => wp_load_at ty x ho ad hx v hr (hK _ _ h)
/-- A whole array, out of memory. -/
theorem load_words {w : World} {p : Nat} {us : List Bool} (h : PM w p us) : (loadVar 144 ⟨p, 1, none⟩).run Tryz.prog w = .ok (.agg (wordsC (natOf us)).toArray) w := by
  have hl : (loadCells ⟨p, 1, none⟩ (wordsC (natOf us)).length).run Tryz.prog w = .ok (wordsC (natOf us)).toArray w :=
    run_loadCells_list (P := Tryz.prog) w ⟨p, 1, none⟩ (wordsC (natOf us)) (fun j v hv => by
      have hj : j < 16 := by have := (List.getElem?_eq_some_iff.1 hv).1; rw [wordsC_length] at this; exact this
      rw [add_at, h.word j hj]
      rw [wordsC_at _ _ hj] at hv
      exact hv)
  rw [wordsC_length] at hl
  simp [loadVar, Sem.run_bind, Tryz.isAgg144, Tryz.sizeOf144, hl]
theorem index_words (N k : Nat) (hk : k < 16) (w : World) : (Instr.index 144 (.agg (wordsC N).toArray) (.int .i64 (k : Nat))).run Tryz.prog w = .ok (.int .u64 (wd N k : Nat)) w := by
  have h := wordsC_at N k hk
  have hk1 : (0 : Int) ≤ (k : Int) ∧ (k : Int) < ((16 : Nat) : Int) := by omega
  have hk2 : k + 1 ≤ 16 := hk
  simp [Instr.index, asIntOf, Sem.run_bind, run_underlying Tryz.underlying144, Tryz.sizeOf76, part, Tryz.isAgg76, h, hk]
set_option maxHeartbeats 1000000 in
theorem left_any (p : Nat) (us : List Bool) (w : World) (h : PM w p us) (hn : us.length ≤ 1024) :
    Calls Tryz.prog 40 #[.pointer (some ⟨p, 0, none⟩)] w fun e w' => e = .returned (.int .i64 (leftF us : Nat)) ∧ w = w' := by
  have hc := h.things
  have hl := load_words h
  have H0 := Lib.hid (leftTo_zero us)
  obtain ⟨C, hC⟩ : ∃ C, (wordsC (natOf us)).toArray = C := ⟨_, rfl⟩
  rw [hC] at hl
  have HC := Lib.hid hC
  clear h hC
  go_enter Tryz.func40, Tryz.ntmps40
  go_wp2_with (refine wpList_load_at rfl 144 (.tmp 14) rfl ⟨p, 1, none⟩ rfl _ hl ?_)
  go_loop [3, 5, 16] (fun v _ i => ∃ k : Nat, k ≤ 16 ∧ i = .int .i64 k ∧ v = .int .i64 (leftTo us k)) (fun _ _ i => 16 - (intOf i).toNat)
  case atStart => exact ⟨0, by omega, rfl, by rw [H0.out]⟩
  case round =>
    obtain ⟨k, hk, rfl, rfl⟩ := hrel
    clear hl hc
    have hb := leftTo_bd us k hk hn
    by_cases hlt : k < 16
    · have hix : ∀ W, (Instr.index 144 (.agg C) (.int .i64 (k : Nat))).run Tryz.prog W = .ok (.int .u64 (wd (natOf us) k : Nat)) W := fun W => by rw [← HC.out]; exact index_words (natOf us) k hlt W
      have ho := ones_bd (wd (natOf us) k)
      have HS := Lib.hid (leftTo_succ us k)
      have HW := Lib.hid (wd_lt (natOf us) k)
      go_wp2_with (go_at_call 73; (with_reducible refine (pop_any _ _ HW.out).mono ?_); rintro e w' ⟨rfl, rfl⟩)
      go_round
      case rel => exact ⟨k + 1, by omega, by go_num, by rw [HS.out]⟩
      case measure => simp [intOf]; omega
    · obtain rfl : k = 16 := by omega
      have HA := Lib.hid (leftTo_all us hn)
      go_wp2
      go_ret
      exact ⟨ret_int HA.out, rfl⟩
end Go.Proofs.YtliiooldlooagaaGreatDoor.M6

/-
  The map's next thing, Take, Copy, New, over this seat's translation; condition: the table of math/bits reads as the library lays it.
-/
namespace Go.Proofs.YtliiooldlooagaaGreatDoor.M6
open Go.RowKit

set_option maxHeartbeats 1000000 in
theorem next_yes (p : Nat) (us : List Bool) (a : Nat) (w : World) (h : PM w p us) (hT : Tab w) (ha : a ≤ us.length) (hn : us.length ≤ 1024) :
    Calls Tryz.prog 107 #[.pointer (some ⟨p, 0, none⟩), .int .i64 (a : Nat), .bool true] w fun e w' => e = .returned (.int .i64 (nextF us a true : Nat)) ∧ w = w' := by
  have hc := h.things
  have HP := Lib.hid h
  have HT := Lib.hid hT
  clear h hT
  go_enter Tryz.func107, Tryz.ntmps107
  go_wp2
  go_loop [1, 7, 8] (fun v _ _ => ∃ k : Nat, a ≤ k ∧ k ≤ 1088 ∧ v = .int .i64 k ∧ Hid (∀ i, a ≤ i → i < k → us.getD i false = !true)) (fun v _ _ => 2000 - (intOf v).toNat)
  case atStart => exact ⟨a, Nat.le_refl _, by omega, rfl, Lib.hid (fun i h1 h2 => by omega)⟩
  case round =>
    obtain ⟨k, hk1, hk2, rfl, hno⟩ := hrel
    by_cases hlt : k < us.length
    · have hcell := HP.out.word (k / 64) (by omega)
      have hr := restF_lt (natOf us) k true
      obtain ⟨x, hx⟩ : ∃ x, restF (natOf us) k true = x := ⟨_, rfl⟩
      have hv : ((wd (natOf us) (k / 64) : Nat) : Int) / 2 ^ (k % 64) = (x : Int) := by rw [int_div_pow, ← hx]; rfl
      rw [hx] at hr
      by_cases h0 : x = 0
      · subst h0
        have HS := Lib.hid (next_on us k true hx)
        clear hx
        have hm : k % 64 < 64 := Nat.mod_lt _ (by decide)
        go_wp2
        go_round
        case rel => exact ⟨k + (64 - k % 64), by omega, by omega, by go_num, Lib.hid (fun i h1 h2 => by
          rcases Nat.lt_or_ge i k with h3 | h3
          · exact hno.out i h1 h3
          · exact HS.out i h3 h2)⟩
        case measure => simp [intOf]; omega
      · have hf := next_found us a k true hk1 hlt hno.out (by rw [hx]; exact h0)
        rw [hx] at hf
        have HF := Lib.hid hf
        have hcz := hf.2
        have HR := Lib.hid hr
        have HZ := Lib.hid h0
        have hz : ((x : Int) != 0) = true := by simp; omega
        have hz2 : ((x : Int) == 0) = false := by simp; omega
        clear hx hf hr h0
        go_wp2_with (go_at_call 132; (with_reducible refine (tz_any x _ HR.out HZ.out HT.out).mono ?_); rintro e w' ⟨rfl, rfl⟩)
        go_ret
        exact ⟨ret_int (by have := HF.out.1; omega), rfl⟩
    · have HN := Lib.hid (next_none us a k true ha (by omega) hno.out)
      go_wp2
      go_ret
      exact ⟨ret_int (by have := HN.out; omega), rfl⟩
theorem xor_all (x : Nat) (hx : x < 18446744073709551616) : bits BinOp.xor IntKind.u64 IntKind.u64.max (x : Int) = ((18446744073709551615 - x : Nat) : Int) := by
  rw [show IntKind.u64.max = ((18446744073709551615 : Nat) : Int) from rfl, bits_xor_u64_nat _ _ (by decide) hx]
  congr 1
  refine Nat.eq_of_testBit_eq fun i => ?_
  rw [Nat.testBit_xor, show 18446744073709551615 - x = 2 ^ 64 - (x + 1) from by omega, Nat.testBit_two_pow_sub_succ hx, show 18446744073709551615 = 2 ^ 64 - 1 from rfl, Nat.testBit_two_pow_sub_one]
  by_cases h : i < 64
  · simp [h]
  · rw [Nat.testBit_lt_two_pow (Nat.lt_of_lt_of_le hx (Nat.pow_le_pow_right (n := 2) (i := 64) (by decide) (by omega)))]; simp [h]
set_option maxHeartbeats 1000000 in
theorem next_no (p : Nat) (us : List Bool) (a : Nat) (w : World) (h : PM w p us) (hT : Tab w) (ha : a ≤ us.length) (hn : us.length ≤ 1024) :
    Calls Tryz.prog 107 #[.pointer (some ⟨p, 0, none⟩), .int .i64 (a : Nat), .bool false] w fun e w' => e = .returned (.int .i64 (nextF us a false : Nat)) ∧ w = w' := by
  have hc := h.things
  have HP := Lib.hid h
  have HT := Lib.hid hT
  clear h hT
  go_enter Tryz.func107, Tryz.ntmps107
  go_wp2
  go_loop [1, 7, 8] (fun v _ _ => ∃ k : Nat, a ≤ k ∧ k ≤ 1088 ∧ v = .int .i64 k ∧ Hid (∀ i, a ≤ i → i < k → us.getD i false = !false)) (fun v _ _ => 2000 - (intOf v).toNat)
  case atStart => exact ⟨a, Nat.le_refl _, by omega, rfl, Lib.hid (fun i h1 h2 => by omega)⟩
  case round =>
    obtain ⟨k, hk1, hk2, rfl, hno⟩ := hrel
    by_cases hlt : k < us.length
    · have hcell := HP.out.word (k / 64) (by omega)
      have hr := restF_lt (natOf us) k false
      obtain ⟨x, hx⟩ : ∃ x, restF (natOf us) k false = x := ⟨_, rfl⟩
      have hv0 := xor_all (wd (natOf us) (k / 64)) (wd_lt _ _)
      have hv : ((18446744073709551615 - wd (natOf us) (k / 64) : Nat) : Int) / 2 ^ (k % 64) = (x : Int) := by rw [int_div_pow, ← hx]; rfl
      have hv1 : bits BinOp.xor IntKind.u64 (if IntKind.u64.signed = true then -1 else IntKind.u64.max) (wd (natOf us) (k / 64) : Nat) = ((18446744073709551615 - wd (natOf us) (k / 64) : Nat) : Int) := hv0
      generalize 18446744073709551615 - wd (natOf us) (k / 64) = y at hv0 hv hv1
      rw [hx] at hr
      by_cases h0 : x = 0
      · subst h0
        have HS := Lib.hid (next_on us k false hx)
        clear hx
        have hm : k % 64 < 64 := Nat.mod_lt _ (by decide)
        go_wp2
        go_round
        case rel => exact ⟨k + (64 - k % 64), by omega, by omega, by go_num, Lib.hid (fun i h1 h2 => by
          rcases Nat.lt_or_ge i k with h3 | h3
          · exact hno.out i h1 h3
          · exact HS.out i h3 h2)⟩
        case measure => simp [intOf]; omega
      · have hf := next_found us a k false hk1 hlt hno.out (by rw [hx]; exact h0)
        rw [hx] at hf
        have HF := Lib.hid hf
        have hcz := hf.2
        have HR := Lib.hid hr
        have HZ := Lib.hid h0
        have hz : ((x : Int) != 0) = true := by simp; omega
        have hz2 : ((x : Int) == 0) = false := by simp; omega
        clear hx hf hr h0
        go_wp2_with (go_at_call 132; (with_reducible refine (tz_any x _ HR.out HZ.out HT.out).mono ?_); rintro e w' ⟨rfl, rfl⟩)
        go_ret
        exact ⟨ret_int (by have := HF.out.1; omega), rfl⟩
    · have HN := Lib.hid (next_none us a k false ha (by omega) hno.out)
      go_wp2
      go_ret
      exact ⟨ret_int (by have := HN.out; omega), rfl⟩

theorem next_any (p : Nat) (us : List Bool) (a : Nat) (b : Bool) (w : World) (h : PM w p us) (hT : Tab w) (ha : a ≤ us.length) (hn : us.length ≤ 1024) :
    Calls Tryz.prog 107 #[.pointer (some ⟨p, 0, none⟩), .int .i64 (a : Nat), .bool b] w fun e w' => e = .returned (.int .i64 (nextF us a b : Nat)) ∧ w = w' := by
  cases b
  · exact next_no p us a w h hT ha hn
  · exact next_yes p us a w h hT ha hn
theorem next_zero (p : Nat) (us : List Bool) (b : Bool) (w : World) (h : PM w p us) (hT : Tab w) (hn : us.length ≤ 1024) :
    Calls Tryz.prog 107 #[.pointer (some ⟨p, 0, none⟩), .int .i64 0, .bool b] w fun e w' => e = .returned (.int .i64 (nextF us 0 b : Nat)) ∧ w = w' :=
  next_any p us 0 b w h hT (Nat.zero_le _) hn
/-- The lowest one that is free; -1, if there is none. -/
def lowF (us : List Bool) : Int := if nextF us 0 false < us.length then nextF us 0 false else -1
def takeE (us : List Bool) : Int := if nextF us 0 false < us.length then 0 else 11
def takeS (us : List Bool) : List Bool := if nextF us 0 false < us.length then us.set (nextF us 0 false) true else us
theorem takeS_length (us : List Bool) : (takeS us).length = us.length := by unfold takeS; split <;> simp
set_option maxHeartbeats 400000 in
theorem take_any (p : Nat) (us : List Bool) (w : World) (h : PM w p us) (hT : Tab w) (hn : us.length ≤ 1024) :
    Calls Tryz.prog 79 #[.pointer (some ⟨p, 0, none⟩)] w fun e w' => e = .returned (.tuple #[.int .i64 (lowF us), .int .i64 (takeE us)]) ∧ PM w' p (takeS us) ∧ w.grownBy w' (some p) := by
  have hc := h.things
  have hsp := nextF_spec us 0 false (Nat.zero_le _)
  have HN := Lib.hid (next_zero p us false w h hT hn)
  by_cases hlt : nextF us 0 false < us.length
  · have he : takeE us = 0 := if_pos hlt
    have hs : takeS us = us.set (nextF us 0 false) true := if_pos hlt
    have hl : lowF us = (nextF us 0 false : Nat) := if_pos hlt
    rw [he, hs, hl]
    obtain ⟨m, hm⟩ : ∃ m, nextF us 0 false = m := ⟨_, rfl⟩
    rw [hm] at hsp hlt HN ⊢
    have HT := Lib.hid (turn_any p us.length (natOf us) m w (by omega) h)
    have HB := Lib.hid (hsp.2.2.2 hlt)
    have hne : ((m : Int) == (us.length : Int)) = false := by simp; omega
    clear h hT hsp he hs hl hm
    go_enter Tryz.func79, Tryz.ntmps79
    go_wp2_with (first
      | (go_at_call 107; (with_reducible refine HN.out.mono ?_); rintro e w' ⟨rfl, rfl⟩)
      | (go_at_call 83; (with_reducible refine HT.out.mono ?_); rintro e w' ⟨rfl, hb1, g1⟩))
    go_ret2
    exact ⟨rfl, pm_turn true hlt HB.out hb1, g1⟩
  · have he : takeE us = 11 := if_neg hlt
    have hs : takeS us = us := if_neg hlt
    have hl : lowF us = -1 := if_neg hlt
    rw [he, hs, hl]
    have hm : nextF us 0 false = us.length := by omega
    rw [hm] at HN
    have HP := Lib.hid h
    clear h hT hsp he hs hl hm
    have hne : ((us.length : Int) == (us.length : Int)) = true := by simp
    go_enter Tryz.func79, Tryz.ntmps79
    go_wp2_with (go_at_call 107; (with_reducible refine HN.out.mono ?_); rintro e w' ⟨rfl, rfl⟩)
    go_ret2
    exact ⟨rfl, HP.out, gb_refl _ _⟩
/-- A pointer to a map, or none. -/
def newV (n : Int) (b : Nat) : Value := if 1 ≤ n ∧ n ≤ 1024 then .pointer (some ⟨b, 0, none⟩) else .pointer none
theorem words_zero : wordsC 0 = List.replicate 16 (.int .u64 0) := by
  unfold wordsC
  simp only [wd_zero]
  rfl
theorem new_no (n : Int) (w : World) (h : n < 1 ∨ 1024 < n) (h1 : -9223372036854775808 ≤ n) (h2 : n ≤ 9223372036854775807) :
    Calls Tryz.prog 93 #[.int .i64 n] w fun e w' => e = .returned (.pointer none) ∧ w = w' := by
  by_cases h3 : n < 1
  · go_enter Tryz.func93, Tryz.ntmps93
    go_wp2
    go_ret
    exact ⟨rfl, rfl⟩
  · have h4 : 1024 < n := by omega
    go_enter Tryz.func93, Tryz.ntmps93
    go_wp2
    go_ret
    exact ⟨rfl, rfl⟩
theorem new_yes (n : Nat) (w : World) (h1 : 1 ≤ n) (h2 : n ≤ 1024) :
    Calls Tryz.prog 93 #[.int .i64 (n : Nat)] w fun e w' => e = .returned (.pointer (some ⟨w.heap.size, 0, none⟩)) ∧ PM w' w.heap.size (List.replicate n false) ∧ w.grownBy w' none := by
  have hfin : PM (w.alloc (.cells #[.int .i64 (n : Nat), .int .u64 0, .int .u64 0, .int .u64 0, .int .u64 0, .int .u64 0, .int .u64 0, .int .u64 0, .int .u64 0, .int .u64 0, .int .u64 0, .int .u64 0, .int .u64 0, .int .u64 0, .int .u64 0, .int .u64 0, .int .u64 0] 146)) w.heap.size (List.replicate n false) := by
    unfold PM mapC
    rw [natOf_replicate, words_zero, List.length_replicate]
    exact Blk.mk w _ _
  have HF := Lib.hid hfin
  clear hfin
  go_enter Tryz.func93, Tryz.ntmps93
  go_wp2
  go_ret
  exact ⟨rfl, HF.out, gb_alloc _ _ _⟩
theorem copy_nil (w : World) : Calls Tryz.prog 69 #[.pointer none] w fun e w' => e = .returned (.pointer none) ∧ w = w' := by
  go_enter Tryz.func69, Tryz.ntmps69
  go_wp2
  go_ret
  exact ⟨rfl, rfl⟩
end Go.Proofs.YtliiooldlooagaaGreatDoor.M6

/-
  The map's Copy, Put, and the words of bytes, over this seat's translation; conditions: those that each law states.
-/
namespace Go.Proofs.YtliiooldlooagaaGreatDoor.M6
open Go.RowKit

theorem wordsC_list (N : Nat) : wordsC N = [.int .u64 (wd N 0 : Nat), .int .u64 (wd N 1 : Nat), .int .u64 (wd N 2 : Nat), .int .u64 (wd N 3 : Nat), .int .u64 (wd N 4 : Nat), .int .u64 (wd N 5 : Nat), .int .u64 (wd N 6 : Nat), .int .u64 (wd N 7 : Nat), .int .u64 (wd N 8 : Nat), .int .u64 (wd N 9 : Nat), .int .u64 (wd N 10 : Nat), .int .u64 (wd N 11 : Nat), .int .u64 (wd N 12 : Nat), .int .u64 (wd N 13 : Nat), .int .u64 (wd N 14 : Nat), .int .u64 (wd N 15 : Nat)] := rfl
set_option maxHeartbeats 2000000 in
theorem copy_any (p : Nat) (us : List Bool) (w : World) (h : PM w p us) :
    Calls Tryz.prog 69 #[.pointer (some ⟨p, 0, none⟩)] w fun e w' => e = .returned (.pointer (some ⟨w.heap.size, 0, none⟩)) ∧ PM w' w.heap.size us ∧ w.grownBy w' none := by
  have hc := h.things
  have h0 := h.word 0 (by decide)
  have h1 := h.word 1 (by decide)
  have h2 := h.word 2 (by decide)
  have h3 := h.word 3 (by decide)
  have h4 := h.word 4 (by decide)
  have h5 := h.word 5 (by decide)
  have h6 := h.word 6 (by decide)
  have h7 := h.word 7 (by decide)
  have h8 := h.word 8 (by decide)
  have h9 := h.word 9 (by decide)
  have h10 := h.word 10 (by decide)
  have h11 := h.word 11 (by decide)
  have h12 := h.word 12 (by decide)
  have h13 := h.word 13 (by decide)
  have h14 := h.word 14 (by decide)
  have h15 := h.word 15 (by decide)
  have hfin : ∀ W : World, w.grownBy W none → W.heap.size = w.heap.size → PM (W.alloc (.cells (Value.int .i64 (us.length : Nat) :: wordsC (natOf us)).toArray 146)) w.heap.size us ∧ w.grownBy (W.alloc (.cells (Value.int .i64 (us.length : Nat) :: wordsC (natOf us)).toArray 146)) none := by
    intro W g hs
    refine ⟨?_, gb_trans g (gb_alloc _ _ _)⟩
    rw [← hs]
    exact Blk.mk W _ _
  rw [wordsC_list] at hfin
  generalize wd (natOf us) 0 = x0 at *
  generalize wd (natOf us) 1 = x1 at *
  generalize wd (natOf us) 2 = x2 at *
  generalize wd (natOf us) 3 = x3 at *
  generalize wd (natOf us) 4 = x4 at *
  generalize wd (natOf us) 5 = x5 at *
  generalize wd (natOf us) 6 = x6 at *
  generalize wd (natOf us) 7 = x7 at *
  generalize wd (natOf us) 8 = x8 at *
  generalize wd (natOf us) 9 = x9 at *
  generalize wd (natOf us) 10 = x10 at *
  generalize wd (natOf us) 11 = x11 at *
  generalize wd (natOf us) 12 = x12 at *
  generalize wd (natOf us) 13 = x13 at *
  generalize wd (natOf us) 14 = x14 at *
  generalize wd (natOf us) 15 = x15 at *
  have HF := Lib.hid hfin
  clear hfin h
  simp only [Nat.add_zero, Nat.reduceAdd] at h0 h1 h2 h3 h4 h5 h6 h7 h8 h9 h10 h11 h12 h13 h14 h15
  go_enter Tryz.func69, Tryz.ntmps69
  go_wp2
  go_region
  all_goals
    go_wp2
    go_ret
    have h := HF.out w (gb_refl _ _) rfl
    exact ⟨rfl, h.1.keep0 (gb_drew _ _), gb_trans h.2 (gb_drew _ _)⟩
end Go.Proofs.YtliiooldlooagaaGreatDoor.M6
