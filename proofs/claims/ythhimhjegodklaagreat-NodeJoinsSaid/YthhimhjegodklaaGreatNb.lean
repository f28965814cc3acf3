/-
  What the small calls of package node answer (isPage, isKey, isShort, isLonger, isCell, cellSize, keySize, keyOf, itself), over this seat's translation; conditions: lengths within a machine's numbers.
-/
import Derived.Test.YthhimhjegodklaaGreatNa
namespace Go.Proofs.YthhimhjegodklaaGreat.N11
set_option linter.unusedSimpArgs false
set_option linter.unusedVariables false
open Go.RowKit
theorem ret_b {a b : Bool} (h : a = b) : Ending.returned (.bool a) = .returned (.bool b) := by rw [h]
theorem ret_i {a b : Int} (h : a = b) : Ending.returned (.int .i64 a) = .returned (.int .i64 b) := by rw [h]
theorem ret_s {a b : ByteArray} (h : a = b) : Ending.returned (.string a) = .returned (.string b) := by rw [h]
theorem isPage_any (n : Int) (w : World) :
    Calls Tryz.prog 60 #[.int .i64 n] w fun e w' => e = .returned (.bool (pageB n)) ∧ w = w' := by
  have HB := Lib.hid (show pageB n = (decide (1 ≤ n) && decide (n ≤ 960)) from rfl)
  by_cases h : 1 ≤ n
  · have hd : decide (1 ≤ n) = true := by simp [h]
    go_enter Tryz.func60, Tryz.ntmps60
    go_wp2
    go_ret
    exact ⟨ret_b (by rw [HB.out, hd, Bool.true_and]), rfl⟩
  · have hd : decide (1 ≤ n) = false := by simp; omega
    go_enter Tryz.func60, Tryz.ntmps60
    go_wp2
    go_ret
    exact ⟨ret_b (by rw [HB.out, hd, Bool.false_and]), rfl⟩
theorem empty_iff (s : ByteArray) : s.toList.isEmpty = decide (s.size = 0) := by
  rw [ByteArray.toList_eq, ByteArray.size]
  cases h : s.data.toList with
  | nil => have : s.data = #[] := by simpa using h
           simp [this]
  | cons x l => have : s.data.size = l.length + 1 := by rw [← Array.length_toList, h]; rfl
                simp [this]
theorem empty_yes (s : ByteArray) (h : s.size = 0) : s.toList = [] := by
  have := empty_iff s
  rw [decide_eq_true h, List.isEmpty_iff] at this; exact this
theorem empty_no (s : ByteArray) (h : s.size ≠ 0) : s.toList.isEmpty = false := by rw [empty_iff]; simp [h]
theorem le_cast (a b : Nat) : decide ((a : Int) ≤ b) = decide (a ≤ b) := by simp
theorem isKey_any (s : ByteArray) (w : World) :
    Calls Tryz.prog 63 #[.string s] w fun e w' => e = .returned (.bool (keyB s)) ∧ w = w' := by
  have HB := Lib.hid (show keyB s = (decide (1 ≤ s.size) && decide (s.size ≤ 40)) from rfl)
  by_cases h : s.size = 0
  · have hl := empty_yes s h
    have HH := Lib.hid h
    clear h
    go_enter Tryz.func63, Tryz.ntmps63
    go_wp2
    go_ret
    exact ⟨ret_b (by rw [HB.out, HH.out]; simp), rfl⟩
  · have hl := empty_no s h
    have HH := Lib.hid h
    clear h
    go_enter Tryz.func63, Tryz.ntmps63
    go_wp2
    go_ret
    exact ⟨ret_b (by rw [HB.out, decide_eq_true (Nat.one_le_iff_ne_zero.2 HH.out), Bool.true_and]; exact le_cast _ 40), rfl⟩
theorem keySize_any (s : ByteArray) (w : World) (hs : s.size ≤ 1000000000000000000) :
    Calls Tryz.prog 120 #[.string s] w fun e w' => e = .returned (.int .i64 (keySz s)) ∧ w = w' := by
  go_enter Tryz.func120, Tryz.ntmps120
  go_wp2
  go_ret
  exact ⟨ret_i (by unfold keySz; omega), rfl⟩
theorem itself_any (s : ByteArray) (w : World) :
    Calls Tryz.prog 127 #[.string s] w fun e w' => e = .returned (.string s) ∧ w = w' := by
  go_enter Tryz.func127, Tryz.ntmps127
  go_wp2
  go_ret
  exact ⟨rfl, rfl⟩
theorem keyOf_any (k v : ByteArray) (f l : Int) (w : World) :
    Calls Tryz.prog 106 #[.agg #[.string k, .string v, .int .i64 f, .int .i64 l]] w fun e w' => e = .returned (.string k) ∧ w' = w.alloc (.cells #[.string k, .string v, .int .i64 f, .int .i64 l] 55) := by
  go_enter Tryz.func106, Tryz.ntmps106
  go_wp2
  go_ret
  exact ⟨rfl, rfl⟩
theorem beq0 {n : Int} (h : n ≠ 0) : (n == 0) = false := by simp [h]
theorem isShort_any (k v : ByteArray) (f l : Int) (w : World) :
    Calls Tryz.prog 64 #[.agg #[.string k, .string v, .int .i64 f, .int .i64 l]] w fun e w' => e = .returned (.bool (shortB ⟨k, v, f, l⟩)) ∧ w' = w.alloc (.cells #[.string k, .string v, .int .i64 f, .int .i64 l] 55) := by
  have HB := Lib.hid (show shortB ⟨k, v, f, l⟩ = (decide (v.size ≤ 40) && decide (f = 0) && decide (l = 0)) from rfl)
  by_cases h : v.size ≤ 40
  · have hd : decide ((v.size : Int) ≤ 40) = true := by simp; omega
    have HH := Lib.hid h
    clear h
    by_cases z : f = 0
    · subst z
      go_enter Tryz.func64, Tryz.ntmps64
      go_wp2
      go_ret
      exact ⟨ret_b (by rw [HB.out, decide_eq_true HH.out]; simp [Bool.beq_eq_decide_eq]), rfl⟩
    · have hz := beq0 z
      have HZ := Lib.hid z
      clear z
      go_enter Tryz.func64, Tryz.ntmps64
      go_wp2
      go_ret
      exact ⟨ret_b (by rw [HB.out, decide_eq_false HZ.out]; simp), rfl⟩
  · have hd : decide ((v.size : Int) ≤ 40) = false := by simp; omega
    have HH := Lib.hid h
    clear h
    go_enter Tryz.func64, Tryz.ntmps64
    go_wp2
    go_ret
    exact ⟨ret_b (by rw [HB.out, decide_eq_false HH.out]; simp), rfl⟩
theorem isLonger_any (k v : ByteArray) (f l : Int) (w : World) :
    Calls Tryz.prog 66 #[.agg #[.string k, .string v, .int .i64 f, .int .i64 l]] w fun e w' => e = .returned (.bool (longB ⟨k, v, f, l⟩)) ∧ w' = w.alloc (.cells #[.string k, .string v, .int .i64 f, .int .i64 l] 55) := by
  have HB := Lib.hid (show longB ⟨k, v, f, l⟩ = (decide (v.size = 0) && pageB f && decide (40 < l) && decide (l ≤ 2000)) from rfl)
  have HP := Lib.hid (isPage_any f)
  by_cases h : v.size = 0
  · have hl := empty_yes v h
    have HH := Lib.hid h
    clear h
    generalize pageB f = pb at HB HP
    cases pb with
    | true =>
      by_cases h1 : 40 < l
      · have h2 : decide (40 < l) = true := by simp [h1]
        go_enter Tryz.func66, Tryz.ntmps66
        go_wp2_with (go_at_call 60; refine (HP.out _).mono ?_; rintro e w1 ⟨rfl, rfl⟩)
        go_ret
        exact ⟨ret_b (by rw [HB.out, decide_eq_true HH.out, h2]; simp), rfl⟩
      · have h2 : decide (40 < l) = false := by simp; omega
        go_enter Tryz.func66, Tryz.ntmps66
        go_wp2_with (go_at_call 60; refine (HP.out _).mono ?_; rintro e w1 ⟨rfl, rfl⟩)
        go_ret
        exact ⟨ret_b (by rw [HB.out, h2]; simp), rfl⟩
    | false =>
      go_enter Tryz.func66, Tryz.ntmps66
      go_wp2_with (go_at_call 60; refine (HP.out _).mono ?_; rintro e w1 ⟨rfl, rfl⟩)
      go_ret
      exact ⟨ret_b (by rw [HB.out]; simp), rfl⟩
  · have hl := empty_no v h
    have HH := Lib.hid h
    clear h
    go_enter Tryz.func66, Tryz.ntmps66
    go_wp2
    go_ret
    exact ⟨ret_b (by rw [HB.out, decide_eq_false HH.out]; simp), rfl⟩
theorem isCell_any (k v : ByteArray) (f l : Int) (w : World) :
    Calls Tryz.prog 104 #[.agg #[.string k, .string v, .int .i64 f, .int .i64 l]] w fun e w' => e = .returned (.bool (cellB ⟨k, v, f, l⟩)) ∧ w.grownBy w' none := by
  have HB := Lib.hid (show cellB ⟨k, v, f, l⟩ = (keyB k && (shortB ⟨k, v, f, l⟩ || longB ⟨k, v, f, l⟩)) from rfl)
  have HK := Lib.hid (isKey_any k)
  have HS := Lib.hid (isShort_any k v f l)
  have HL := Lib.hid (isLonger_any k v f l)
  generalize keyB k = kb at HB HK
  generalize shortB _ = sb at HB HS
  generalize longB _ = lb at HB HL
  cases kb
  · go_enter Tryz.func104, Tryz.ntmps104
    go_wp2_with (go_at_call 63; refine (HK.out _).mono ?_; rintro e w1 ⟨rfl, rfl⟩)
    go_ret
    exact ⟨ret_b (by rw [HB.out]; simp), gb_alloc _ _ _⟩
  · cases sb
    · go_enter Tryz.func104, Tryz.ntmps104
      go_wp2_with (first | (go_at_call 63; refine (HK.out _).mono ?_; rintro e w1 ⟨rfl, rfl⟩) | (go_at_call 64; refine (HS.out _).mono ?_; rintro e w1 ⟨rfl, rfl⟩) | (go_at_call 66; refine (HL.out _).mono ?_; rintro e w1 ⟨rfl, rfl⟩))
      go_ret
      exact ⟨ret_b (by rw [HB.out]; simp), gb_trans (gb_trans (gb_alloc _ _ _) (gb_alloc _ _ _)) (gb_alloc _ _ _)⟩
    · go_enter Tryz.func104, Tryz.ntmps104
      go_wp2_with (first | (go_at_call 63; refine (HK.out _).mono ?_; rintro e w1 ⟨rfl, rfl⟩) | (go_at_call 64; refine (HS.out _).mono ?_; rintro e w1 ⟨rfl, rfl⟩))
      go_ret
      exact ⟨ret_b (by rw [HB.out]; simp), gb_trans (gb_alloc _ _ _) (gb_alloc _ _ _)⟩
theorem cellSize_any (k v : ByteArray) (f l : Int) (w : World) (hk : k.size ≤ 1000000000000000000) (hv : v.size ≤ 1000000000000000000) :
    Calls Tryz.prog 97 #[.agg #[.string k, .string v, .int .i64 f, .int .i64 l]] w fun e w' => e = .returned (.int .i64 (cellSz ⟨k, v, f, l⟩)) ∧ w.grownBy w' none := by
  have HB := Lib.hid (show cellSz ⟨k, v, f, l⟩ = if longB ⟨k, v, f, l⟩ then 1 + k.size + 5 else 1 + k.size + 1 + v.size from rfl)
  have HL := Lib.hid (isLonger_any k v f l)
  generalize longB _ = lb at HB HL
  cases lb
  all_goals
    go_enter Tryz.func97, Tryz.ntmps97
    go_wp2_with (go_at_call 66; refine (HL.out _).mono ?_; rintro e w1 ⟨rfl, rfl⟩)
    go_ret
    exact ⟨ret_i (by rw [HB.out]; simp), gb_trans (gb_alloc _ _ _) (gb_alloc _ _ _)⟩
end Go.Proofs.YthhimhjegodklaaGreat.N11

