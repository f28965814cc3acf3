/-
  What the statements' own 'ints' and 'works' answer, over this seat's translation; conditions: the slices read as numbers.
-/
import Derived.Test.YtfkkdhgggocgjaaDoorTj
namespace Go.Proofs.YtfkkdhgggocgjaaDoor
open Go.RowKit

theorem intsC_at {l : List Nat} {k : Nat} (h : k < l.length) : (intsC l)[k]? = some (.int .i64 (l.getD k 0 : Nat)) := by
  unfold intsC; rw [List.getElem?_map, List.getElem?_eq_getElem h]; simp [List.getD_eq_getElem?_getD, h]
theorem nts_at {w : World} {l : List Nat} {ao : Option Addr} {cap : Nat} (h : Nts w (.slice ao l.length cap) l) {k : Nat} (hk : k < l.length) : ∃ a, ao = some a ∧ w.cell? (a.add k) = some (.int .i64 (l.getD k 0 : Nat)) := by
  obtain ⟨a, cap', he, _, hc⟩ := Sl.some h (by omega)
  injection he with e1 _ _
  exact ⟨a, e1, hc k _ (intsC_at hk)⟩
theorem nts_shape {w : World} {v : Value} {l : List Nat} (h : Nts w v l) : ∃ ao cap, v = .slice ao l.length cap := by
  obtain ⟨ao, cap, h1, _⟩ := h; exact ⟨ao, cap, h1⟩
/-- Two lists are the same if each number is. -/
theorem same_of {l r : List Nat} (hl : l.length = r.length) (h : ∀ k, k < l.length → l.getD k 0 = r.getD k 0) : l = r := by
  refine List.ext_getElem hl fun k h1 h2 => ?_
  have := h k h1
  rw [List.getD_eq_getElem?_getD, List.getD_eq_getElem?_getD, List.getElem?_eq_getElem h1, List.getElem?_eq_getElem h2] at this
  exact this
/-- What comes of two lists held against each other. -/
def SameGot (w : World) (b : Bool) (e : Ending) (w' : World) : Prop := e = .returned (.bool b) ∧ w.grownBy w' none ∧ w'.heap = w.heap
set_option maxRecDepth 100000 in
set_option maxHeartbeats 400000 in
theorem ints_any (v u : Value) (l r : List Nat) (w : World) (hv : Nts w v l) (hu : Nts w u r) (hl : l.length ≤ 1000000) (hr : r.length ≤ 1000000) :
    Calls Tryd.prog 28 #[v, u] w (SameGot w (decide (l = r))) := by
  obtain ⟨ao, cap, rfl⟩ := nts_shape hv
  obtain ⟨bo, cup, rfl⟩ := nts_shape hu
  by_cases he : l.length = r.length
  · by_cases h0 : r.length = 0
    · obtain rfl : r = [] := List.eq_nil_of_length_eq_zero h0
      obtain rfl : l = [] := List.eq_nil_of_length_eq_zero he
      clear hv hu hl hr he h0
      rw [decide_eq_true rfl]
      simp only [List.length_nil]
      go_enter Tryd.func28, Tryd.ntmps28
      go_wp2
      go_loopw [5] (fun i wr => i = .int .i64 0 ∧ wr = w) (fun _ _ => 0)
      case atStart => exact ⟨rfl, rfl⟩
      case round =>
        obtain ⟨rfl, rfl⟩ := hrel
        go_wp2
        go_ret
        exact ⟨rfl, gb_refl _ _, rfl⟩
    · obtain ⟨a, rfl, _⟩ := nts_at hv (k := 0) (by omega)
      obtain ⟨b, rfl, _⟩ := nts_at hu (k := 0) (by omega)
      have hca : ∀ k, k < l.length → w.cell? (a.add k) = some (.int .i64 (l.getD k 0 : Nat)) := fun k hk => by
        obtain ⟨a', e, hc⟩ := nts_at hv hk
        cases e; exact hc
      have hcb : ∀ k, k < r.length → w.cell? (b.add k) = some (.int .i64 (r.getD k 0 : Nat)) := fun k hk => by
        obtain ⟨a', e, hc⟩ := nts_at hu hk
        cases e; exact hc
      obtain ⟨n, hn⟩ : ∃ n, r.length = n := ⟨_, rfl⟩
      have HA := Lib.hid hca
      have HB := Lib.hid hcb
      have HN := Lib.hid (And.intro (he.trans hn) hn)
      have hn1 : n ≤ 1000000 := by omega
      rw [he, hn]
      clear hv hu hca hcb hl hr he h0 hn
      go_enter Tryd.func28, Tryd.ntmps28
      go_wp2
      go_loopw [5] (fun i wr => ∃ k : Nat, k ≤ n ∧ i = .int .i64 k ∧ Hid (∀ j, j < k → l.getD j 0 = r.getD j 0) ∧ w.grownBy wr none ∧ Hid (wr.heap = w.heap)) (fun i _ => n - (intOf i).toNat)
      case atStart => exact ⟨0, by omega, rfl, Lib.hid (fun j hj => by omega), gb_refl _ _, Lib.hid rfl⟩
      case round =>
        obtain ⟨k, hk, rfl, HS, hg, HH⟩ := hrel
        by_cases hlt : k < n
        · have ha := hg.cell (HA.out k (by rw [HN.out.1]; exact hlt)) (by simp)
          have hb := hg.cell (HB.out k (by rw [HN.out.2]; exact hlt)) (by simp)
          obtain ⟨x, hx⟩ : ∃ x, l.getD k 0 = x := ⟨_, rfl⟩
          obtain ⟨y, hy⟩ : ∃ y, r.getD k 0 = y := ⟨_, rfl⟩
          rw [hx] at ha
          rw [hy] at hb
          have HXY := Lib.hid (And.intro hx hy)
          clear hx hy
          by_cases hxy : x = y
          · subst hxy
            have hbq : ((x : Int) != (x : Int)) = false := by simp
            go_wp2
            go_region
            all_goals
              go_wp2
              go_roundw
              case rel =>
                refine ⟨k + 1, by omega, by go_num, Lib.hid (fun j hj => ?_), gb_trans hg (gb_drew _ _), Lib.hid (show wr.drew.heap = w.heap from HH.out)⟩
                rcases Nat.lt_or_ge j k with h | h
                · exact HS.out j h
                · obtain rfl : j = k := by omega
                  rw [HXY.out.1, HXY.out.2]
              case measure => simp [intOf]; omega
          · have hbq : ((x : Int) != (y : Int)) = true := by simp; omega
            have hne : l ≠ r := fun e => hxy (by rw [← HXY.out.1, ← HXY.out.2, e])
            rw [decide_eq_false hne]
            clear hne
            go_wp2
            go_region
            all_goals
              go_wp2
              go_ret
              exact ⟨rfl, gb_trans hg (gb_drew _ _), HH.out⟩
        · obtain rfl : k = n := by omega
          have HE := Lib.hid (same_of (HN.out.1.trans HN.out.2.symm) (fun j hj => HS.out j (by rw [HN.out.1] at hj; exact hj)))
          go_wp2
          go_ret
          exact ⟨ret_bool (decide_eq_true HE.out).symm, hg, HH.out⟩
  · have hne : l ≠ r := fun e => he (by rw [e])
    rw [decide_eq_false hne]
    have hlen : ((l.length : Int) != (r.length : Int)) = true := by simp; omega
    clear hne hv hu
    generalize l.length = m at *
    generalize r.length = n at *
    go_enter Tryd.func28, Tryd.ntmps28
    go_wp2
    go_ret
    exact ⟨rfl, gb_refl _ _, rfl⟩

theorem Sl_owns {w : World} {base : Nat} {v : Value} {l : List Nat} (h : w.ownsRow base 3 1 v l.length (intsC l)) : Nts w v l := Sl.of_owns h
/-- The states of the chapter's examples. -/
def k1 : TB := setF newF 1 2
def k2 : TB := setF k1 121 1023
def k3 : TB := cleanF k2
def k4 : TB := dropF k3 1
theorem set_k (p : Nat) (s s' : TB) (i v e' : Int) (hE : setE i v = e') (hS : setF s i v = s') (w : World) (h : PT w p s) : Calls Tryd.prog 8 #[.pointer (some ⟨p, 0, none⟩), .int .i64 i, .int .i64 v] w fun e w' => e = .returned (.int .i64 e') ∧ PT w' p s' ∧ w.grownBy w' (some p) := by
  subst hE hS; exact set_any p s i v w h
theorem drop_k (p : Nat) (s s' : TB) (i e' : Int) (hE : dropE s i = e') (hS : dropF s i = s') (w : World) (h : PT w p s) : Calls Tryd.prog 10 #[.pointer (some ⟨p, 0, none⟩), .int .i64 i] w fun e w' => e = .returned (.int .i64 e') ∧ PT w' p s' ∧ w.grownBy w' (some p) := by
  subst hE hS; exact drop_any p s i w h
theorem get_k (p : Nat) (s : TB) (i v : Int) (hE : (getF s i : Nat) = v) (w : World) (h : PT w p s) : Calls Tryd.prog 20 #[.pointer (some ⟨p, 0, none⟩), .int .i64 i] w fun e w' => e = .returned (.int .i64 v) ∧ w = w' := by
  subst hE; exact get_any p s i w h
theorem dirty_k (p : Nat) (s : TB) (l : List Nat) (hE : dirtyF s.D = l) (w : World) (h : PT w p s) : Calls Tryd.prog 25 #[.pointer (some ⟨p, 0, none⟩)] w (NtsGot w l) := by
  subst hE; exact dirty_any p s w h
theorem sectors_k (p : Nat) (s : TB) (l : List Nat) (hE : secsF s.P = l) (w : World) (h : PT w p s) : Calls Tryd.prog 26 #[.pointer (some ⟨p, 0, none⟩)] w (NtsGot w l) := by
  subst hE; exact sectors_any p s w h
theorem lowest_k (p : Nat) (s : TB) (n c : Int) (hN : (lowN s.P : Nat) = n) (hC : (lowE s.P : Nat) = c) (w : World) (h : PT w p s) : Calls Tryd.prog 27 #[.pointer (some ⟨p, 0, none⟩)] w fun e w' => e = .returned (.tuple #[.int .i64 n, .int .i64 c]) ∧ w.grownBy w' none := by
  subst hN hC; exact lowest_any p s w h
theorem clean_k (p : Nat) (s s' : TB) (hS : cleanF s = s') (w : World) (h : PT w p s) : Calls Tryd.prog 16 #[.pointer (some ⟨p, 0, none⟩)] w fun e w' => e = .returned (.tuple #[]) ∧ PT w' p s' ∧ w.grownBy w' (some p) := by
  subst hS; exact clean_any p s w h
theorem ints_k (v u : Value) (l r : List Nat) (b : Bool) (hb : decide (l = r) = b) (w : World) (hv : Nts w v l) (hu : Nts w u r) (hl : l.length ≤ 1000000) (hr : r.length ≤ 1000000) :
    Calls Tryd.prog 28 #[v, u] w fun e w' => e = .returned (.bool b) ∧ w.grownBy w' none := by
  subst hb; exact (ints_any v u l r w hv hu hl hr).mono fun e w' h => ⟨h.1, h.2.1⟩
theorem kset0 : setF k2 0 5 = k2 ∧ setF k2 961 5 = k2 ∧ setF k2 3 1 = k2 ∧ setF k2 3 1024 = k2 :=
  ⟨if_neg (by decide), if_neg (by decide), if_neg (by decide), if_neg (by decide)⟩
theorem ksetE : setE 1 2 = 0 ∧ setE 121 1023 = 0 ∧ setE 0 5 = 2 ∧ setE 961 5 = 2 ∧ setE 3 1 = 2 ∧ setE 3 1024 = 2 := by decide
theorem kget : (getF k2 121 : Nat) = (1023 : Int) := by decide +kernel
theorem kdirty2 : dirtyF k2.D = [0, 1] := by decide +kernel
theorem klow : (lowN k2.P : Nat) = (2 : Int) ∧ (lowE k2.P : Nat) = (0 : Int) := by decide +kernel
theorem ksecs : secsF k2.P = [2, 1023] := by decide +kernel
theorem kdrop3 : getF k2 3 = 0 := by decide +kernel
theorem kset3 : setF k3 1 2 = k3 := by
  have h : k3.P.getD 0 0 = 2 := by decide +kernel
  have h2 : putF k3 0 2 = k3 := if_pos h
  have h3 : setF k3 1 2 = putF k3 0 2 := if_pos (by decide)
  rw [h3, h2]
theorem kdirty3 : dirtyF k3.D = [] := by decide +kernel
theorem kdrop1 : getF k3 1 = 2 := by decide +kernel
theorem kdirty4 : dirtyF k4.D = [0] := by decide +kernel
theorem nts_list (w : World) (l : List Nat) : ∀ n : Nat, n = l.length → Nts (w.alloc (.cells (intsC l).toArray 3)) (.slice (some ⟨w.heap.size, 0, none⟩) n n) l := by
  rintro n rfl
  refine ⟨_, _, rfl, Nat.le_refl _, by simp [intsC], (fun e => by cases e), ?_⟩
  intro a e j u hj
  cases e
  rw [add_at, Nat.zero_add]
  exact (Blk.mk w 3 (intsC l).toArray).cell j (by rw [List.getElem?_toArray]; exact hj)
/-- A row of numbers that lies behind a block. -/
def Far (p : Nat) (W : World) (v : Value) (l : List Nat) : Prop := W.ownsRow (p + 1) 3 1 v l.length (intsC l)
theorem far_of {p : Nat} {W W' : World} {v : Value} {l : List Nat} {s : TB} (o : W'.ownsRow W.heap.size 3 1 v l.length (intsC l)) (h : PT W p s) : Far p W' v l := owns_mono o h.lt
theorem Far.keep0 {p : Nat} {W W' : World} {v : Value} {l : List Nat} (h : Far p W v l) (g : W.grownBy W' none) : Far p W' v l := World.ownsRow.kept h g (by cases v.ownBlock <;> simp)
theorem Far.keepP {p : Nat} {W W' : World} {v : Value} {l : List Nat} (h : Far p W v l) (g : W.grownBy W' (some p)) : Far p W' v l := World.ownsRow.kept h g (Or.inr (fun e => own_far h (Nat.lt_succ_self p) e.symm))
theorem Far.nts {p : Nat} {W : World} {v : Value} {l : List Nat} (h : Far p W v l) : Nts W v l := Sl.of_owns h
theorem nts_01 (w : World) : Nts (w.alloc (.cells #[.int .i64 0, .int .i64 1] 3)) (.slice (some ⟨w.heap.size, 0, none⟩) 2 2) [0, 1] := nts_list w [0, 1] 2 rfl
theorem nts_2 (w : World) : Nts (w.alloc (.cells #[.int .i64 2, .int .i64 1023] 3)) (.slice (some ⟨w.heap.size, 0, none⟩) 2 2) [2, 1023] := nts_list w [2, 1023] 2 rfl
theorem nts_0 (w : World) : Nts (w.alloc (.cells #[.int .i64 0] 3)) (.slice (some ⟨w.heap.size, 0, none⟩) 1 1) [0] := nts_list w [0] 1 rfl
set_option maxRecDepth 100000 in
set_option maxHeartbeats 2000000 in
theorem works_any (w : World) : Calls Tryd.prog 23 #[] w fun e w' => e = .returned (.bool true) ∧ w.grownBy w' none := by
  have H1 := Lib.hid (fun p w h => set_k p newF k1 1 2 0 ksetE.1 rfl w h)
  have H2 := Lib.hid (fun p w h => set_k p k1 k2 121 1023 0 ksetE.2.1 rfl w h)
  have H3 := Lib.hid (fun p w h => get_k p k2 121 1023 kget w h)
  have H4 := Lib.hid (fun p w h => dirty_k p k2 [0, 1] kdirty2 w h)
  have H5 := Lib.hid (fun p w h => lowest_k p k2 2 0 klow.1 klow.2 w h)
  have H6 := Lib.hid (fun p w h => sectors_k p k2 [2, 1023] ksecs w h)
  have H7 := Lib.hid (fun p w h => set_k p k2 k2 0 5 2 ksetE.2.2.1 kset0.1 w h)
  have H8 := Lib.hid (fun p w h => set_k p k2 k2 961 5 2 ksetE.2.2.2.1 kset0.2.1 w h)
  have H9 := Lib.hid (fun p w h => set_k p k2 k2 3 1 2 ksetE.2.2.2.2.1 kset0.2.2.1 w h)
  have H10 := Lib.hid (fun p w h => set_k p k2 k2 3 1024 2 ksetE.2.2.2.2.2 kset0.2.2.2 w h)
  have H11 := Lib.hid (fun p w h => drop_k p k2 k2 3 13 (if_pos kdrop3) (if_pos kdrop3) w h)
  have H12 := Lib.hid (fun p w h => clean_k p k2 k3 rfl w h)
  have H13 := Lib.hid (fun p w h => set_k p k3 k3 1 2 0 ksetE.1 kset3 w h)
  have H14 := Lib.hid (fun p w h => dirty_k p k3 [] kdirty3 w h)
  have H15 := Lib.hid (fun p w h => drop_k p k3 k4 1 0 (if_neg (by rw [kdrop1]; decide)) rfl w h)
  have H16 := Lib.hid (fun p w h => dirty_k p k4 [0] kdirty4 w h)
  go_enter Tryd.func23, Tryd.ntmps23
  simp only [List.append]
  go_wp2_with (first
    | (go_at_call 6; (with_reducible refine (tnew_any _).mono ?_); rintro e w1 ⟨rfl, P0, g0⟩)
    | (go_at_call 8; (with_reducible refine (H1.out _ _ P0).mono ?_); rintro e w2 ⟨rfl, P1, g1⟩; clear P0; replace g1 := gb_step g0 g1 (Nat.le_refl _))
    | (go_at_call 8; (with_reducible refine (H2.out _ _ P1).mono ?_); rintro e w3 ⟨rfl, P2, g2⟩; clear P1; replace g2 := gb_step g1 g2 (Nat.le_refl _))
    | (go_at_call 20; (with_reducible refine (H3.out _ _ P2).mono ?_); rintro e w4 ⟨rfl, rfl⟩)
    | (go_at_call 25; (with_reducible refine (H4.out _ _ P2).mono ?_); rintro e w4 ⟨v1, rfl, o1, g3⟩; replace o1 := far_of o1 P2; replace P2 := P2.keep0 g3; replace g2 := gb_trans g2 g3)
    | (go_at_call 27; (with_reducible refine (H5.out _ _ P2).mono ?_); rintro e w5 ⟨rfl, g3⟩; replace o1 := o1.keep0 g3; replace P2 := P2.keep0 g3; replace g2 := gb_trans g2 g3)
    | (go_at_call 26; (with_reducible refine (H6.out _ _ P2).mono ?_); rintro e w6 ⟨v2, rfl, o2, g3⟩; replace o2 := far_of o2 P2; replace o1 := o1.keep0 g3; replace P2 := P2.keep0 g3; replace g2 := gb_trans g2 g3)
    | (go_at_call 8; (with_reducible refine (H7.out _ _ P2).mono ?_); rintro e w7 ⟨rfl, P3, g3⟩; replace o1 := o1.keepP g3; replace o2 := o2.keepP g3; clear P2; replace g2 := gb_step g2 g3 (Nat.le_refl _); have P2 := P3; clear P3)
    | (go_at_call 8; (with_reducible refine (H8.out _ _ P2).mono ?_); rintro e w7 ⟨rfl, P3, g3⟩; replace o1 := o1.keepP g3; replace o2 := o2.keepP g3; clear P2; replace g2 := gb_step g2 g3 (Nat.le_refl _); have P2 := P3; clear P3)
    | (go_at_call 8; (with_reducible refine (H9.out _ _ P2).mono ?_); rintro e w7 ⟨rfl, P3, g3⟩; replace o1 := o1.keepP g3; replace o2 := o2.keepP g3; clear P2; replace g2 := gb_step g2 g3 (Nat.le_refl _); have P2 := P3; clear P3)
    | (go_at_call 8; (with_reducible refine (H10.out _ _ P2).mono ?_); rintro e w7 ⟨rfl, P3, g3⟩; replace o1 := o1.keepP g3; replace o2 := o2.keepP g3; clear P2; replace g2 := gb_step g2 g3 (Nat.le_refl _); have P2 := P3; clear P3)
    | (go_at_call 10; (with_reducible refine (H11.out _ _ P2).mono ?_); rintro e w7 ⟨rfl, P3, g3⟩; replace o1 := o1.keepP g3; replace o2 := o2.keepP g3; clear P2; replace g2 := gb_step g2 g3 (Nat.le_refl _); have P2 := P3; clear P3)
    | (go_at_call 16; (with_reducible refine (H12.out _ _ P2).mono ?_); rintro e w7 ⟨rfl, P3, g3⟩; replace o1 := o1.keepP g3; replace o2 := o2.keepP g3; clear P2; replace g2 := gb_step g2 g3 (Nat.le_refl _))
    | (go_at_call 8; (with_reducible refine (H13.out _ _ P3).mono ?_); rintro e w7 ⟨rfl, P4, g3⟩; replace o1 := o1.keepP g3; replace o2 := o2.keepP g3; clear P3; replace g2 := gb_step g2 g3 (Nat.le_refl _); have P3 := P4; clear P4)
    | (go_at_call 25; (with_reducible refine (H14.out _ _ P3).mono ?_); rintro e w4 ⟨v3, rfl, o3, g3⟩; obtain ⟨a3, c3, rfl⟩ := nts_shape (Sl_owns (l := []) o3); clear o3; replace o1 := o1.keep0 g3; replace o2 := o2.keep0 g3; replace P3 := P3.keep0 g3; replace g2 := gb_trans g2 g3; simp only [List.length_nil])
    | (go_at_call 10; (with_reducible refine (H15.out _ _ P3).mono ?_); rintro e w7 ⟨rfl, P4, g3⟩; replace o1 := o1.keepP g3; replace o2 := o2.keepP g3; clear P3; replace g2 := gb_step g2 g3 (Nat.le_refl _))
    | (go_at_call 28; (with_reducible refine (ints_k _ _ [0, 1] [0, 1] true (by decide) _ (o1.keep0 (gb_alloc _ _ _)).nts (nts_01 _) (by decide) (by decide)).mono ?_); rintro e w8 ⟨rfl, g3⟩; replace g3 := gb_trans (gb_alloc _ _ _) g3; replace o2 := o2.keep0 g3; replace P4 := P4.keep0 g3; replace g2 := gb_trans g2 g3; clear o1)
    | (go_at_call 28; (with_reducible refine (ints_k _ _ [2, 1023] [2, 1023] true (by decide) _ (o2.keep0 (gb_alloc _ _ _)).nts (nts_2 _) (by decide) (by decide)).mono ?_); rintro e w8 ⟨rfl, g3⟩; replace g3 := gb_trans (gb_alloc _ _ _) g3; replace P4 := P4.keep0 g3; replace g2 := gb_trans g2 g3; clear o2)
    | (go_at_call 25; (with_reducible refine (H16.out _ _ P4).mono ?_); rintro e w4 ⟨v4, rfl, o4, g3⟩; replace o4 := far_of o4 P4; replace P4 := P4.keep0 g3; replace g2 := gb_trans g2 g3)
    | (go_at_call 28; (with_reducible refine (ints_k _ _ [0] [0] true (by decide) _ (o4.keep0 (gb_alloc _ _ _)).nts (nts_0 _) (by decide) (by decide)).mono ?_); rintro e w8 ⟨rfl, g3⟩; replace g3 := gb_trans (gb_alloc _ _ _) g3; replace g2 := gb_trans g2 g3; clear o4))
  go_ret
  exact ⟨rfl, g2⟩
end Go.Proofs.YtfkkdhgggocgjaaDoor

