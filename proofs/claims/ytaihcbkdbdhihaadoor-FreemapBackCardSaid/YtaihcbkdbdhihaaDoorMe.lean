/-
  Arrays of words held against each other; and each thing that is told, used, one by one, over this seat's translation; conditions: those that each law states.
-/
import Derived.Test.YtaihcbkdbdhihaaDoorMd
import Derived.Laws.StructEq
import Derived.ChangeKeysEq
namespace Go.Proofs.YtaihcbkdbdhihaaDoor
open Go.RowKit

theorem part_word (N k : Nat) (hk : k < 16) (w : World) : (part 55 (wordsC N).toArray (k * Tryd.prog.cellsOf 55)).run Tryd.prog w = .ok (.int .u64 (wd N k : Nat)) w := by
  have h := wordsC_at N k hk
  have hc : Tryd.prog.cellsOf 55 = 1 := by kernel_rfl
  rw [hc, Nat.mul_one]
  simp [part, Tryd.isAgg55, Sem.run_bind, h]
theorem eqItems_words (d M N : Nat) (w : World) : ∀ is : List Nat, (∀ k ∈ is, k < 16) → (Op.eqItems (d + 1) 55 (Tryd.prog.cellsOf 55) (wordsC M).toArray (wordsC N).toArray is).run Tryd.prog w = .ok (is.all fun k => wd M k == wd N k) w
  | [], _ => by simp [Op.eqItems]
  | k :: is, h => by
    have ih := eqItems_words d M N w is (fun x hx => h x (List.mem_cons_of_mem _ hx))
    have hk := h k (List.mem_cons_self ..)
    have he := run_equalIn_int (P := Tryd.prog) (w := w) d 55 .u64 .u64 (wd M k : Nat) (wd N k : Nat) Tryd.underlying55
    have hb : (((wd M k : Nat) : Int) == ((wd N k : Nat) : Int)) = (wd M k == wd N k) := by
      rw [Bool.eq_iff_iff, beq_iff_eq, beq_iff_eq]; omega
    rw [hb] at he
    simp only [Op.eqItems, Sem.run_bind, part_word M k hk, part_word N k hk, Result.andThen_ok, he, List.all_cons]
    cases wd M k == wd N k
    · simp
    · simpa using ih
/-- Are the words the same? -/
def sameW (M N : Nat) : Bool := (List.range 16).all fun k => wd M k == wd N k
theorem sameW_iff (M N : Nat) : sameW M N = true ↔ ∀ k, k < 16 → wd M k = wd N k := by
  unfold sameW
  rw [List.all_eq_true]
  simp
theorem equal_words (M N : Nat) (w : World) : (Op.equalIn 10000 57 (.agg (wordsC M).toArray) (.agg (wordsC N).toArray)).run Tryd.prog w = .ok (sameW M N) w := by
  cases hi : Tryd.prog.info? 55 with
  | none => exact absurd hi (by have h : (Tryd.prog.info? 55).isSome = true := by kernel_rfl
                                intro e; rw [e] at h; cases h)
  | some i =>
    rw [show (10000 : Nat) = 9998 + 1 + 1 from rfl, run_equalIn_array w (9998 + 1) _ _ Tryd.underlying57 hi]
    exact eqItems_words 9998 M N w _ (fun k hk => List.mem_range.1 hk)
theorem neq_words (M N : Nat) (w : World) : (binOp .neq 57 (.agg (wordsC M).toArray) (.agg (wordsC N).toArray)).run Tryd.prog w = .ok (.bool (!sameW M N)) w := by
  rw [run_neq_struct, equal_words]; rfl

/-- Which things are used behind so many steps. -/
def usUp (n S k : Nat) : List Bool := (List.range n).map fun i => decide (i < k) && S.testBit i
theorem usUp_length (n S k : Nat) : (usUp n S k).length = n := by simp [usUp]
theorem usUp_zero (n S : Nat) : usUp n S 0 = List.replicate n false := by
  unfold usUp
  rw [List.eq_replicate_iff]
  refine ⟨by simp, fun b hb => ?_⟩
  obtain ⟨m, _, rfl⟩ := List.mem_map.1 hb
  simp
theorem usUp_get (n S k i : Nat) : (usUp n S k).getD i false = (decide (i < n) && (decide (i < k) && S.testBit i)) := by
  unfold usUp
  simp only [List.getD_eq_getElem?_getD, List.getElem?_map]
  by_cases h : i < n
  · rw [List.getElem?_range h]; simp [h]
  · rw [List.getElem?_eq_none (by simp; omega)]; simp [h]
theorem usUp_all (n : Nat) (l : List UInt8) : usUp n (leN l) n = usOf n l := by
  unfold usUp usOf
  refine List.map_congr_left fun i hi => ?_
  rw [decide_eq_true (List.mem_range.1 hi), Bool.true_and]
theorem usUp_no {n S k : Nat} (h : S.testBit k = false) : usUp n S (k + 1) = usUp n S k := by
  unfold usUp
  refine List.map_congr_left fun i _ => ?_
  by_cases e : i = k
  · subst e; rw [h]; simp
  · have : (i < k + 1) ↔ (i < k) := by omega
    simp [this]
theorem usUp_yes {n S k : Nat} (hk : k < n) (h : S.testBit k = true) : usUp n S (k + 1) = (usUp n S k).set k true := by
  refine List.ext_getElem? fun i => ?_
  rw [List.getElem?_set, usUp_length]
  unfold usUp
  rw [List.getElem?_map, List.getElem?_map]
  by_cases e : k = i
  · subst e; rw [List.getElem?_range hk]; simp [hk, h]
  · rw [if_neg e]
    have h2 : (i < k + 1) ↔ (i < k) := by omega
    rcases Nat.lt_or_ge i n with h3 | h3
    · rw [List.getElem?_range h3]; simp [h2]
    · rw [List.getElem?_eq_none (by simpa using h3)]; rfl
theorem use_step {n S k : Nat} (hk : k < n) (h : S.testBit k = true) : useS (usUp n S k) (k : Int) = usUp n S (k + 1) := by
  have h0 : lackE (usUp n S k) (k : Int) = 0 := lackE_nat (by rw [usUp_length]; exact hk)
  have hu : useE (usUp n S k) (k : Int) = 0 := by
    unfold useE
    rw [if_neg (by simp [h0]), hasF_nat, usUp_get]; simp
  unfold useS
  rw [if_pos hu, usUp_yes hk h]; simp
set_option maxHeartbeats 1000000 in
theorem onEach_any (p n S : Nat) (w : World) (h : PM w p (List.replicate n false)) (hn : n ≤ 1024) :
    Calls Tryd.prog 38 #[.pointer (some ⟨p, 0, none⟩), .agg (wordsC S).toArray, .func (.func 11) #[] #[]] w fun e w' => e = .returned (.tuple #[]) ∧ PM w' p (usUp n S n) ∧ w.grownBy w' (some p) := by
  have hp := h.lt
  rw [← usUp_zero n S] at h
  obtain ⟨C, hC⟩ : ∃ C, (wordsC S).toArray = C := ⟨_, rfl⟩
  have ha : Arr (w.alloc (.cells C 57)) w.heap.size S := by rw [← hC]; exact Blk.mk w _ _
  rw [hC]
  have hc := h.things
  rw [usUp_length] at hc
  have h1 := h.keep0 (gb_alloc w (.cells C 57) none)
  have g1 := gb_alloc w (.cells C 57) (some p)
  clear hC h
  go_enter Tryd.func38, Tryd.ntmps38
  go_wp2
  generalize w.alloc (.cells C 57) = W0 at ha h1 g1 ⊢
  go_loopw [6, 11] (fun _ v wr => ∃ k : Nat, k ≤ n ∧ v = .int .i64 k ∧ PM wr p (usUp n S k) ∧ Arr wr w.heap.size S ∧ w.grownBy wr (some p)) (fun _ v _ => n - (intOf v).toNat)
  case atStart => exact ⟨0, by omega, rfl, h1, ha, g1⟩
  case round =>
    obtain ⟨k, hk, rfl, hP, hA, hg⟩ := hrel
    clear h1 ha g1 hc
    by_cases hlt : k < n
    · have hw := hA.word (k / 64) (by omega)
      rw [show k / 64 = 0 + k / 64 from by omega] at hw
      have HS := Lib.hid (isSet_any w.heap.size 0 S k wr (by omega) (by rw [hw, Nat.zero_add]))
      obtain ⟨b, hb⟩ : ∃ b, S.testBit k = b := ⟨_, rfl⟩
      rw [hb] at HS
      cases b
      · have hP2 : PM wr p (usUp n S (k + 1)) := by rw [usUp_no hb]; exact hP
        have H2 := Lib.hid (And.intro hP2 (And.intro hA hg))
        clear hP hA hg hP2 hw hb
        go_wp2_with (go_at_call 29; (with_reducible refine HS.out.mono ?_); rintro e w' ⟨rfl, rfl⟩)
        go_roundw
        case rel => exact ⟨k + 1, by omega, by go_num, H2.out.1, H2.out.2.1, H2.out.2.2⟩
        case measure => simp [intOf]; omega
      · have hU := use_any p (usUp n S k) (k : Int) wr hP (by rw [usUp_length]; exact hn)
        rw [use_step hlt hb] at hU
        have HU := Lib.hid hU
        have H2 := Lib.hid (And.intro hA hg)
        clear hP hA hg hw hb hU
        go_wp2_with (first
          | (go_at_call 29; (with_reducible refine HS.out.mono ?_); rintro e w' ⟨rfl, rfl⟩)
          | (go_at_call 11; (with_reducible refine HU.out.mono ?_); rintro e w' ⟨rfl, hP2, g2⟩))
        go_roundw
        case rel => exact ⟨k + 1, by omega, by go_num, hP2, Blk.keep H2.out.1 g2 (ne_some (by omega)), gb_trans H2.out.2 g2⟩
        case measure => simp [intOf]; omega
    · obtain rfl : k = n := by omega
      have H2 := Lib.hid (And.intro hP hg)
      clear hP hA hg
      go_wp2
      go_end0
      exact ⟨rfl, H2.out.1, H2.out.2⟩
end Go.Proofs.YtaihcbkdbdhihaaDoor
