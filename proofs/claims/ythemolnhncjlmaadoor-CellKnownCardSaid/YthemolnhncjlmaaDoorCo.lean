/-
  What Open answers of any text, over this seat's translation; no conditions beside the model's own.
-/
import Derived.Test.YthemolnhncjlmaaDoorCa
namespace Go.Proofs.YthemolnhncjlmaaDoor
open Go.RowKit

set_option maxRecDepth 100000 in
set_option maxHeartbeats 1000000 in
theorem blank_any (x b : Nat) (l : List UInt8) (w : World) (hx : w.cell? ⟨x, 0, none⟩ = some (.pointer (some ⟨b, 0, none⟩))) (h : Sec w b l) :
    Calls Tryd.prog 39 #[.pointer (some ⟨x, 0, none⟩)] w (Says w (q4 l)) := by
  have HQ := Lib.hid (show q4 l = if firstAt l (2 + longF l) < 252 then (5, firstAt l (2 + longF l)) else (0, 0) from rfl)
  generalize q4 l = q at HQ ⊢
  have HS := Lib.hid h
  have hlb := longF_lt l
  have HE := Lib.hid (fun W (g : w.grownBy W none) => end_any b l W (h.keep0 g))
  clear h
  obtain ⟨p, hp⟩ : ∃ p, 2 + longF l = p := ⟨_, rfl⟩
  have hp2 : p ≤ 257 := by omega
  rw [hp] at HE HQ
  clear hp hlb
  go_enter Tryd.func39, Tryd.ntmps39
  go_wp2_with (go_at_call 27; (with_reducible refine (HE.out _ (gb_refl _ _)).mono ?_); rintro e w' ⟨rfl, rfl⟩)
  go_loop [3] (fun v => ∃ k : Nat, p ≤ k ∧ (p ≤ 252 → k ≤ 252) ∧ v = .int .i64 k ∧ k ≤ 257 ∧ Hid (p ≤ 252 → firstAt l p = firstAt l k)) (fun v => 300 - (intOf v).toNat)
  case atStart => exact ⟨p, by omega, fun h => h, rfl, hp2, Lib.hid (fun _ => rfl)⟩
  case round =>
    obtain ⟨k, hk, hk1, rfl, hk2, hf⟩ := hrel
    by_cases hlt : k < 252
    · have hb := HS.out.byte k (by omega)
      by_cases h0 : l.getD k 0 = 0
      · have HN := Lib.hid (firstAt_on l k hlt HS.out.2 h0)
        rw [h0] at hb
        simp only [UInt8.toNat_zero] at hb
        go_wp2
        go_round
        case rel => exact ⟨k + 1, by omega, fun _ => by omega, by go_num, by omega, Lib.hid (fun h => (hf.out h).trans HN.out)⟩
        case measure => simp [intOf]; omega
      · have HN := Lib.hid (firstAt_hit l k hlt HS.out.2 h0)
        have hz : ((l.getD k 0).toNat : Int) ≠ 0 := by
          intro e
          exact h0 (UInt8.toNat_inj.1 (by simpa using Int.ofNat.inj e))
        generalize ((l.getD k 0).toNat : Int) = c at hb hz
        have hz2 : (c == 0) = false := by simp [hz]
        have hz3 : (c != 0) = true := by simp [hz]
        go_wp2
        go_ret2
        have e1 : firstAt l p = k := (hf.out (by omega)).trans HN.out
        exact ⟨by rw [HQ.out, e1, if_pos hlt]; rfl, gb_refl _ _⟩
    · have HL := Lib.hid (firstAt_end l HS.out.2)
      go_wp2
      go_ret2
      refine ⟨?_, gb_refl _ _⟩
      have e1 : ¬ firstAt l p < 252 := by
        rcases Nat.lt_or_ge 252 p with h1 | h1
        · have : p ≤ firstAt l p := by unfold firstAt; omega
          omega
        · have hk0 : k = 252 := by have := hk1 h1; omega
          have := hf.out h1
          rw [hk0, HL.out] at this
          omega
      rw [HQ.out, if_neg e1]; rfl

/-- A fault, new, or none. -/
def Asked (w : World) (c : Nat × Nat) (e : Ending) (w' : World) : Prop :=
  (c.1 = 0 → e = .returned .nilIface ∧ w.grownBy w' none) ∧
  (c.1 ≠ 0 → ∃ a : Nat, e = .returned (.iface 66 (.pointer (some ⟨a, 0, none⟩))) ∧ w.heap.size ≤ a ∧ Ft w' a (c.1 : Nat) (c.2 : Nat) ∧ w.grownBy w' none)
theorem firstQ_hit (c d : Nat) (r : List (Nat × Nat)) (h : c ≠ 0) : firstQ ((c, d) :: r) = (c, d) := if_neg h
theorem firstQ_on (d : Nat) (r : List (Nat × Nat)) : firstQ ((0, d) :: r) = firstQ r := if_pos rfl
/-- The questions, as they stand in memory. -/
def Asks (w : World) (g : Nat) (xs : List Nat) : Prop :=
  w.cell? ⟨g, 0, none⟩ = some (.func (.func 34) #[] #[.pointer (some ⟨xs.getD 0 0, 0, none⟩)]) ∧
  w.cell? ⟨g, 1, none⟩ = some (.func (.func 35) #[] #[.pointer (some ⟨xs.getD 1 0, 0, none⟩)]) ∧
  w.cell? ⟨g, 2, none⟩ = some (.func (.func 37) #[] #[.pointer (some ⟨xs.getD 2 0, 0, none⟩)]) ∧
  w.cell? ⟨g, 3, none⟩ = some (.func (.func 38) #[] #[.pointer (some ⟨xs.getD 3 0, 0, none⟩)]) ∧
  w.cell? ⟨g, 4, none⟩ = some (.func (.func 39) #[] #[.pointer (some ⟨xs.getD 4 0, 0, none⟩)])
set_option maxRecDepth 100000 in
set_option maxHeartbeats 2000000 in
theorem ask_any (g : Nat) (x0 x1 x2 x3 x4 : Nat) (c0 c1 c2 c3 c4 : Nat × Nat) (w : World) (hA : Asks w g [x0, x1, x2, x3, x4])
    (H0 : ∀ W, w.grownBy W none → Calls Tryd.prog 34 #[.pointer (some ⟨x0, 0, none⟩)] W (Says W c0))
    (H1 : ∀ W, w.grownBy W none → Calls Tryd.prog 35 #[.pointer (some ⟨x1, 0, none⟩)] W (Says W c1))
    (H2 : ∀ W, w.grownBy W none → Calls Tryd.prog 37 #[.pointer (some ⟨x2, 0, none⟩)] W (Says W c2))
    (H3 : ∀ W, w.grownBy W none → Calls Tryd.prog 38 #[.pointer (some ⟨x3, 0, none⟩)] W (Says W c3))
    (H4 : ∀ W, w.grownBy W none → Calls Tryd.prog 39 #[.pointer (some ⟨x4, 0, none⟩)] W (Says W c4)) :
    Calls Tryd.prog 21 #[.slice (some ⟨g, 0, none⟩) 5 5] w (Asked w (firstQ [c0, c1, c2, c3, c4])) := by
  obtain ⟨k0, k1, k2, k3, k4⟩ := hA
  simp only [List.getD_cons_zero, List.getD_cons_succ] at k0 k1 k2 k3 k4
  replace H0 := Lib.hid H0
  obtain ⟨a0, b0⟩ := c0
  replace H1 := Lib.hid H1
  obtain ⟨a1, b1⟩ := c1
  replace H2 := Lib.hid H2
  obtain ⟨a2, b2⟩ := c2
  replace H3 := Lib.hid H3
  obtain ⟨a3, b3⟩ := c3
  replace H4 := Lib.hid H4
  obtain ⟨a4, b4⟩ := c4
  go_enter Tryd.func21, Tryd.ntmps21
  go_wp2
  refine wp_loop_rounds 6 ?_
  have g0 := gb_refl w none
  rw [rounds_succ]
  by_cases z : a0 = 0
  rotate_left
  · have hz : ((a0 : Int) != 0) = true := by simp [z]
    have HZ := Lib.hid z
    clear z
    go_wp2_with (go_at_call 34; (with_reducible refine (H0.out _ g0).mono ?_); rintro e wn ⟨rfl, g⟩)
    go_ret
    rw [firstQ_hit _ _ _ HZ.out]
    refine ⟨fun h => absurd h HZ.out, fun _ => ⟨_, rfl, (gb_trans g0 g).size, Blk.mk _ _ _, gb_trans (gb_trans g0 g) (gb_alloc _ _ _)⟩⟩
  subst z
  rw [firstQ_on]
  go_wp2_with (go_at_call 34; (with_reducible refine (H0.out _ g0).mono ?_); rintro e w1 ⟨rfl, g⟩; replace k1 := g.cell k1 (by simp); replace k2 := g.cell k2 (by simp); replace k3 := g.cell k3 (by simp); replace k4 := g.cell k4 (by simp);  have g1 := gb_trans g0 g; clear g)
  rw [rounds_succ]
  by_cases z : a1 = 0
  rotate_left
  · have hz : ((a1 : Int) != 0) = true := by simp [z]
    have HZ := Lib.hid z
    clear z
    go_wp2_with (go_at_call 35; (with_reducible refine (H1.out _ g1).mono ?_); rintro e wn ⟨rfl, g⟩)
    go_ret
    rw [firstQ_hit _ _ _ HZ.out]
    refine ⟨fun h => absurd h HZ.out, fun _ => ⟨_, rfl, (gb_trans g1 g).size, Blk.mk _ _ _, gb_trans (gb_trans g1 g) (gb_alloc _ _ _)⟩⟩
  subst z
  rw [firstQ_on]
  go_wp2_with (go_at_call 35; (with_reducible refine (H1.out _ g1).mono ?_); rintro e w2 ⟨rfl, g⟩; replace k2 := g.cell k2 (by simp); replace k3 := g.cell k3 (by simp); replace k4 := g.cell k4 (by simp);  have g2 := gb_trans g1 g; clear g)
  rw [rounds_succ]
  by_cases z : a2 = 0
  rotate_left
  · have hz : ((a2 : Int) != 0) = true := by simp [z]
    have HZ := Lib.hid z
    clear z
    go_wp2_with (go_at_call 37; (with_reducible refine (H2.out _ g2).mono ?_); rintro e wn ⟨rfl, g⟩)
    go_ret
    rw [firstQ_hit _ _ _ HZ.out]
    refine ⟨fun h => absurd h HZ.out, fun _ => ⟨_, rfl, (gb_trans g2 g).size, Blk.mk _ _ _, gb_trans (gb_trans g2 g) (gb_alloc _ _ _)⟩⟩
  subst z
  rw [firstQ_on]
  go_wp2_with (go_at_call 37; (with_reducible refine (H2.out _ g2).mono ?_); rintro e w3 ⟨rfl, g⟩; replace k3 := g.cell k3 (by simp); replace k4 := g.cell k4 (by simp);  have g3 := gb_trans g2 g; clear g)
  rw [rounds_succ]
  by_cases z : a3 = 0
  rotate_left
  · have hz : ((a3 : Int) != 0) = true := by simp [z]
    have HZ := Lib.hid z
    clear z
    go_wp2_with (go_at_call 38; (with_reducible refine (H3.out _ g3).mono ?_); rintro e wn ⟨rfl, g⟩)
    go_ret
    rw [firstQ_hit _ _ _ HZ.out]
    refine ⟨fun h => absurd h HZ.out, fun _ => ⟨_, rfl, (gb_trans g3 g).size, Blk.mk _ _ _, gb_trans (gb_trans g3 g) (gb_alloc _ _ _)⟩⟩
  subst z
  rw [firstQ_on]
  go_wp2_with (go_at_call 38; (with_reducible refine (H3.out _ g3).mono ?_); rintro e w4 ⟨rfl, g⟩; replace k4 := g.cell k4 (by simp);  have g4 := gb_trans g3 g; clear g)
  rw [rounds_succ]
  by_cases z : a4 = 0
  rotate_left
  · have hz : ((a4 : Int) != 0) = true := by simp [z]
    have HZ := Lib.hid z
    clear z
    go_wp2_with (go_at_call 39; (with_reducible refine (H4.out _ g4).mono ?_); rintro e wn ⟨rfl, g⟩)
    go_ret
    rw [firstQ_hit _ _ _ HZ.out]
    refine ⟨fun h => absurd h HZ.out, fun _ => ⟨_, rfl, (gb_trans g4 g).size, Blk.mk _ _ _, gb_trans (gb_trans g4 g) (gb_alloc _ _ _)⟩⟩
  subst z
  rw [firstQ_on]
  go_wp2_with (go_at_call 39; (with_reducible refine (H4.out _ g4).mono ?_); rintro e w5 ⟨rfl, g⟩;  have g5 := gb_trans g4 g; clear g)
  rw [rounds_succ]
  go_wp2
  go_ret
  exact ⟨fun _ => ⟨rfl, g5⟩, fun h => absurd rfl h⟩
end Go.Proofs.YthemolnhncjlmaaDoor
