/-
  What the small calls of the document's answer for nodes are (keyed, paged, celled of foyerref11), over this seat's translation; no conditions.
-/
import Derived.Test.YthhimhjegodklaaGreatNn
import Derived.Deep.DeepCutAuto
namespace Go.Proofs.YthhimhjegodklaaGreat.N11
set_option linter.unusedSimpArgs false
set_option linter.unusedVariables false
open Go.RowKit
theorem paged_any (n : Int) (w : World) :
    Calls Tryz.prog 31 #[.int .i64 n] w fun e w' => e = .returned (.bool (pageB n)) ∧ w.grownBy w' none := by
  have HB := Lib.hid (show pageB n = (decide (1 ≤ n) && decide (n ≤ 960)) from rfl)
  by_cases h : 1 ≤ n
  · have hd : decide (1 ≤ n) = true := by simp [h]
    go_enter Tryz.func31, Tryz.ntmps31
    go_wp2
    go_ret
    exact ⟨ret_b (by rw [HB.out, hd, Bool.true_and]), gb_refl _ _⟩
  · have hd : decide (1 ≤ n) = false := by simp; omega
    go_enter Tryz.func31, Tryz.ntmps31
    go_wp2
    go_ret
    exact ⟨ret_b (by rw [HB.out, hd, Bool.false_and]), gb_refl _ _⟩
theorem keyed_any (s : ByteArray) (w : World) :
    Calls Tryz.prog 30 #[.string s] w fun e w' => e = .returned (.bool (keyB s)) ∧ w.grownBy w' none := by
  have HB := Lib.hid (show keyB s = (decide (1 ≤ s.size) && decide (s.size ≤ 40)) from rfl)
  obtain ⟨k, hk⟩ : ∃ k : Nat, s.size = k := ⟨_, rfl⟩
  by_cases h : 1 ≤ k
  · have hd : decide (1 ≤ (k : Int)) = true := by simp; omega
    have hd1 : decide (1 ≤ k) = true := by simp [h]
    have h2 : (1 : Int) ≤ k := by omega
    go_enter Tryz.func30, Tryz.ntmps30
    go_wp2
    go_ret
    exact ⟨ret_b (by rw [HB.out, hk, hd1, Bool.true_and]; exact le_cast k 40), gb_refl _ _⟩
  · have hd : decide (1 ≤ (k : Int)) = false := by simp; omega
    have hd1 : decide (1 ≤ k) = false := by simp; omega
    have h2 : ¬ (1 : Int) ≤ k := by omega
    go_enter Tryz.func30, Tryz.ntmps30
    go_wp2
    go_ret
    exact ⟨ret_b (by rw [HB.out, hk, hd1, Bool.false_and]), gb_refl _ _⟩
theorem cellB_zero (k v : ByteArray) (hk : keyB k = true) : cellB ⟨k, v, 0, 0⟩ = decide (v.size ≤ 40) := by
  unfold cellB
  rw [show shortB ⟨k, v, 0, 0⟩ = decide (v.size ≤ 40) by unfold shortB; simp, show longB ⟨k, v, 0, 0⟩ = false by unfold longB pageB; simp, show (⟨k, v, 0, 0⟩ : Ce).key = k from rfl, hk]
  simp
theorem cellB_long (k v : ByteArray) (f l : Int) (hk : keyB k = true) (hz : ¬ (f = 0 ∧ l = 0)) : cellB ⟨k, v, f, l⟩ = longB ⟨k, v, f, l⟩ := by
  unfold cellB
  rw [show shortB ⟨k, v, f, l⟩ = false by unfold shortB; simp; intro _ h1 h2; exact hz ⟨h1, h2⟩, show (⟨k, v, f, l⟩ : Ce).key = k from rfl, hk]
  simp
theorem cellB_no (k v : ByteArray) (f l : Int) (hk : keyB k = false) : cellB ⟨k, v, f, l⟩ = false := by
  unfold cellB
  rw [show (⟨k, v, f, l⟩ : Ce).key = k from rfl, hk]; rfl
set_option maxRecDepth 100000 in
set_option maxHeartbeats 1000000 in
theorem celled_any (k v : ByteArray) (f l : Int) (w : World) :
    Calls Tryz.prog 29 #[.agg #[.string k, .string v, .int .i64 f, .int .i64 l]] w fun e w' => e = .returned (.bool (cellB ⟨k, v, f, l⟩)) ∧ w.grownBy w' none := by
  obtain ⟨u0, hu, kC, g0, hz0⟩ := new1 w 55 #[.string k, .string v, .int .i64 f, .int .i64 l]
  have HU := Lib.hid hu
  have c1 := kC.cell 1 rfl
  have c2 := kC.cell 2 rfl
  have c3 := kC.cell 3 rfl
  rcases hk : keyB k with _ | _
  · have HK : Hid (∀ W, Calls Tryz.prog 30 #[.string k] W fun e w' => e = .returned (.bool false) ∧ W.grownBy w' none) := Lib.hid (fun W => by have := keyed_any k W; rw [hk] at this; exact this)
    have HB := Lib.hid (cellB_no k v f l hk)
    clear hu hz0 hk c1 c2 c3 kC
    go_enter Tryz.func29, Tryz.ntmps29
    go_wp2_with (go_at_call 30; rw [← HU.out]; (with_reducible refine (HK.out _).mono ?_); rintro e w1 ⟨rfl, g1⟩)
    go_ret
    exact ⟨ret_b HB.out.symm, gb_trans g0 g1⟩
  · have HK : Hid (∀ W, Calls Tryz.prog 30 #[.string k] W fun e w' => e = .returned (.bool true) ∧ W.grownBy w' none) := Lib.hid (fun W => by have := keyed_any k W; rw [hk] at this; exact this)
    by_cases hz : f = 0 ∧ l = 0
    · obtain ⟨rfl, rfl⟩ := hz
      have HB := Lib.hid (cellB_zero k v hk)
      clear hu hz0 hk
      go_enter Tryz.func29, Tryz.ntmps29
      go_wp2_with (go_at_call 30; rw [← HU.out]; (with_reducible refine (HK.out _).mono ?_); rintro e w1 ⟨rfl, g1⟩; replace c1 := g1.cell c1 (by simp); replace c2 := g1.cell c2 (by simp); replace c3 := g1.cell c3 (by simp))
      go_ret
      exact ⟨ret_b (by rw [HB.out]; exact le_cast v.size 40), gb_trans g0 g1⟩
    · have HB := Lib.hid (cellB_long k v f l hk hz)
      have HL := Lib.hid (show longB ⟨k, v, f, l⟩ = (decide (v.size = 0) && pageB f && decide (40 < l) && decide (l ≤ 2000)) from rfl)
      have HP := Lib.hid (fun W => paged_any f W)
      have hz2 : (f == 0 && l == 0) = false := by
        rw [Bool.and_eq_false_iff]
        by_cases h1 : f = 0
        · right; simp; exact fun h2 => hz ⟨h1, h2⟩
        · left; simp [h1]
      clear hu hz0 hk
      have go : Calls Tryz.prog 29 #[.agg #[.string k, .string v, .int .i64 f, .int .i64 l]] w fun e w' => e = .returned (.bool (decide (v.size = 0) && pageB f && decide (40 < l) && decide (l ≤ 2000))) ∧ w.grownBy w' none := by
        by_cases hv : v.size = 0
        · have hl := empty_yes v hv
          have HV := Lib.hid hv
          clear hv
          generalize pageB f = pb at HL HP ⊢
          by_cases hf : f = 0
          · have hl0 : ¬ l = 0 := fun h => hz ⟨hf, h⟩
            have hl0b : (l == 0) = false := by simp [hl0]
            subst hf
            clear hz
            cases pb with
            | false =>
              go_enter Tryz.func29, Tryz.ntmps29
              go_wp2_with (first | (go_at_call 30; rw [← HU.out]; (with_reducible refine (HK.out _).mono ?_); rintro e w1 ⟨rfl, g1⟩; replace c1 := g1.cell c1 (by simp); replace c2 := g1.cell c2 (by simp); replace c3 := g1.cell c3 (by simp); replace g0 := gb_trans g0 g1; clear g1) | (go_at_call 31; (with_reducible refine (HP.out _).mono ?_); rintro e w2 ⟨rfl, g2⟩; replace c1 := g2.cell c1 (by simp); replace c2 := g2.cell c2 (by simp); replace c3 := g2.cell c3 (by simp); replace g0 := gb_trans g0 g2; clear g2))
              go_ret
              exact ⟨ret_b (by simp), g0⟩
            | true =>
              by_cases h1 : 40 < l
              · go_enter Tryz.func29, Tryz.ntmps29
                go_wp2_with (first | (go_at_call 30; rw [← HU.out]; (with_reducible refine (HK.out _).mono ?_); rintro e w1 ⟨rfl, g1⟩; replace c1 := g1.cell c1 (by simp); replace c2 := g1.cell c2 (by simp); replace c3 := g1.cell c3 (by simp); replace g0 := gb_trans g0 g1; clear g1) | (go_at_call 31; (with_reducible refine (HP.out _).mono ?_); rintro e w2 ⟨rfl, g2⟩; replace c1 := g2.cell c1 (by simp); replace c2 := g2.cell c2 (by simp); replace c3 := g2.cell c3 (by simp); replace g0 := gb_trans g0 g2; clear g2))
                go_ret
                exact ⟨ret_b (by rw [decide_eq_true HV.out, decide_eq_true h1]; simp), g0⟩
              · have h1b : decide (40 < l) = false := by simp; omega
                go_enter Tryz.func29, Tryz.ntmps29
                go_wp2_with (first | (go_at_call 30; rw [← HU.out]; (with_reducible refine (HK.out _).mono ?_); rintro e w1 ⟨rfl, g1⟩; replace c1 := g1.cell c1 (by simp); replace c2 := g1.cell c2 (by simp); replace c3 := g1.cell c3 (by simp); replace g0 := gb_trans g0 g1; clear g1) | (go_at_call 31; (with_reducible refine (HP.out _).mono ?_); rintro e w2 ⟨rfl, g2⟩; replace c1 := g2.cell c1 (by simp); replace c2 := g2.cell c2 (by simp); replace c3 := g2.cell c3 (by simp); replace g0 := gb_trans g0 g2; clear g2))
                go_ret
                exact ⟨ret_b (by rw [h1b]; simp), g0⟩
          · have hfb : (f == 0) = false := by simp [hf]
            clear hz
            cases pb with
            | false =>
              go_enter Tryz.func29, Tryz.ntmps29
              go_wp2_with (first | (go_at_call 30; rw [← HU.out]; (with_reducible refine (HK.out _).mono ?_); rintro e w1 ⟨rfl, g1⟩; replace c1 := g1.cell c1 (by simp); replace c2 := g1.cell c2 (by simp); replace c3 := g1.cell c3 (by simp); replace g0 := gb_trans g0 g1; clear g1) | (go_at_call 31; (with_reducible refine (HP.out _).mono ?_); rintro e w2 ⟨rfl, g2⟩; replace c1 := g2.cell c1 (by simp); replace c2 := g2.cell c2 (by simp); replace c3 := g2.cell c3 (by simp); replace g0 := gb_trans g0 g2; clear g2))
              go_ret
              exact ⟨ret_b (by simp), g0⟩
            | true =>
              by_cases h1 : 40 < l
              · go_enter Tryz.func29, Tryz.ntmps29
                go_wp2_with (first | (go_at_call 30; rw [← HU.out]; (with_reducible refine (HK.out _).mono ?_); rintro e w1 ⟨rfl, g1⟩; replace c1 := g1.cell c1 (by simp); replace c2 := g1.cell c2 (by simp); replace c3 := g1.cell c3 (by simp); replace g0 := gb_trans g0 g1; clear g1) | (go_at_call 31; (with_reducible refine (HP.out _).mono ?_); rintro e w2 ⟨rfl, g2⟩; replace c1 := g2.cell c1 (by simp); replace c2 := g2.cell c2 (by simp); replace c3 := g2.cell c3 (by simp); replace g0 := gb_trans g0 g2; clear g2))
                go_ret
                exact ⟨ret_b (by rw [decide_eq_true HV.out, decide_eq_true h1]; simp), g0⟩
              · have h1b : decide (40 < l) = false := by simp; omega
                go_enter Tryz.func29, Tryz.ntmps29
                go_wp2_with (first | (go_at_call 30; rw [← HU.out]; (with_reducible refine (HK.out _).mono ?_); rintro e w1 ⟨rfl, g1⟩; replace c1 := g1.cell c1 (by simp); replace c2 := g1.cell c2 (by simp); replace c3 := g1.cell c3 (by simp); replace g0 := gb_trans g0 g1; clear g1) | (go_at_call 31; (with_reducible refine (HP.out _).mono ?_); rintro e w2 ⟨rfl, g2⟩; replace c1 := g2.cell c1 (by simp); replace c2 := g2.cell c2 (by simp); replace c3 := g2.cell c3 (by simp); replace g0 := gb_trans g0 g2; clear g2))
                go_ret
                exact ⟨ret_b (by rw [h1b]; simp), g0⟩
        · have hl := empty_no v hv
          have HV := Lib.hid hv
          clear hv
          by_cases hf : f = 0
          · have hl0 : ¬ l = 0 := fun h => hz ⟨hf, h⟩
            have hl0b : (l == 0) = false := by simp [hl0]
            subst hf
            clear hz
            go_enter Tryz.func29, Tryz.ntmps29
            go_wp2_with (go_at_call 30; rw [← HU.out]; (with_reducible refine (HK.out _).mono ?_); rintro e w1 ⟨rfl, g1⟩; replace c1 := g1.cell c1 (by simp); replace c2 := g1.cell c2 (by simp); replace c3 := g1.cell c3 (by simp); replace g0 := gb_trans g0 g1; clear g1)
            go_ret
            exact ⟨ret_b (by rw [decide_eq_false HV.out]; simp), g0⟩
          · have hfb : (f == 0) = false := by simp [hf]
            clear hz
            go_enter Tryz.func29, Tryz.ntmps29
            go_wp2_with (go_at_call 30; rw [← HU.out]; (with_reducible refine (HK.out _).mono ?_); rintro e w1 ⟨rfl, g1⟩; replace c1 := g1.cell c1 (by simp); replace c2 := g1.cell c2 (by simp); replace c3 := g1.cell c3 (by simp); replace g0 := gb_trans g0 g1; clear g1)
            go_ret
            exact ⟨ret_b (by rw [decide_eq_false HV.out]; simp), g0⟩
      exact go.mono fun e w' hq => by rw [HB.out, HL.out]; exact hq
end Go.Proofs.YthhimhjegodklaaGreat.N11

