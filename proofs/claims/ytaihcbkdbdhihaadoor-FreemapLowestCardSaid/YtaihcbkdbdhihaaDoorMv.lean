/-
  FreemapLowest's walk: what is taken was free, and nothing below it, over this seat's translation; conditions: the table of math/bits reads as the library lays it, the numbers read as lists.
-/
import Derived.Test.YtaihcbkdbdhihaaDoorMs
import Derived.Test.YtaihcbkdbdhihaaDoorMpo
import Derived.OrdersHeld
import Derived.Deep.RegionHeld3
namespace Go.Proofs.YtaihcbkdbdhihaaDoor
open Go.RowKit

/-- The program's map, and beside it a list of what is used. -/
structure Side (w : World) (n p q : Nat) (us : List Bool) (W : World) : Prop where
  pm : PM W p us
  row : Blk W q 4 (bools us).toArray
  newp : w.heap.size ≤ p
  newq : w.heap.size ≤ q
  len : us.length = n
  small : n ≤ 1024
  grown : w.grownBy W none
  tab : Tab w
theorem Side.ne {w : World} {n p q : Nat} {us : List Bool} {W : World} (h : Side w n p q us W) : p ≠ q := by
  have h1 := h.pm
  have h2 := h.row
  unfold PM Blk at *
  rintro rfl
  rw [h1] at h2
  injection h2 with h3
  injection h3 with _ h4
  exact absurd h4 (by decide)
theorem Side.tabW {w : World} {n p q : Nat} {us : List Bool} {W : World} (h : Side w n p q us W) : Tab W := h.tab.keep0 h.grown
theorem Side.at {w : World} {n p q : Nat} {us : List Bool} {W : World} (h : Side w n p q us W) (k : Nat) (hk : k < n) : W.cell? ⟨q, k, none⟩ = some (.bool (us.getD k false)) := h.row.cell k (by rw [List.getElem?_toArray]; exact bools_at (by rw [h.len]; exact hk))
theorem u_use {us us' : List Bool} {i z : Int} (h1 : useE us i = z) (h2 : useS us i = us') (h3 : us.length ≤ 1024) (p : Nat) (w : World) (h : PM w p us) :
    Calls Tryd.prog 11 #[.pointer (some ⟨p, 0, none⟩), .int .i64 i] w fun e w' => e = .returned (.int .i64 z) ∧ PM w' p us' ∧ w.grownBy w' (some p) := by
  subst h1 h2; exact use_any p us i w h h3
theorem u_give {us us' : List Bool} {i z : Int} (h1 : giveE us i = z) (h2 : giveS us i = us') (h3 : us.length ≤ 1024) (p : Nat) (w : World) (h : PM w p us) :
    Calls Tryd.prog 13 #[.pointer (some ⟨p, 0, none⟩), .int .i64 i] w fun e w' => e = .returned (.int .i64 z) ∧ PM w' p us' ∧ w.grownBy w' (some p) := by
  subst h1 h2; exact give_any p us i w h h3
theorem u_take {us us' : List Bool} {x z : Int} (h0 : lowF us = x) (h1 : takeE us = z) (h2 : takeS us = us') (h3 : us.length ≤ 1024) (p : Nat) (w : World) (h : PM w p us) (hT : Tab w) :
    Calls Tryd.prog 15 #[.pointer (some ⟨p, 0, none⟩)] w fun e w' => e = .returned (.tuple #[.int .i64 x, .int .i64 z]) ∧ PM w' p us' ∧ w.grownBy w' (some p) := by
  subst h0 h1 h2; exact take_any p us w h hT h3
theorem u_left {us : List Bool} {z : Int} (h1 : ((leftF us : Nat) : Int) = z) (h3 : us.length ≤ 1024) (p : Nat) (w : World) (h : PM w p us) :
    Calls Tryd.prog 21 #[.pointer (some ⟨p, 0, none⟩)] w fun e w' => e = .returned (.int .i64 z) ∧ w = w' := by
  subst h1; exact left_any p us w h h3
theorem u_runs {us : List Bool} {l : List (Nat × Nat)} (h1 : runsF us = l) (h3 : us.length ≤ 1024) (p : Nat) (w : World) (h : PM w p us) (hT : Tab w) :
    Calls Tryd.prog 25 #[.pointer (some ⟨p, 0, none⟩)] w (RunsGot w l) := by
  subst h1; exact runs_any p us w h hT h3
theorem set_same {us : List Bool} {m : Nat} {b : Bool} (hm : m < us.length) (h : us.getD m false = b) : us.set m b = us := by
  refine List.ext_getElem? fun i => ?_
  rw [List.getElem?_set]
  split
  · rename_i e
    subst e
    simp only [List.getD_eq_getElem?_getD, List.getElem?_eq_getElem hm, Option.getD_some] at h
    simp [hm, h]
  · rfl
theorem use_yes {us : List Bool} {m : Nat} (hm : m < us.length) (h : us.getD m false = true) : useE us (m : Int) = 12 ∧ useS us (m : Int) = us := by
  have he : useE us (m : Int) = 12 := by unfold useE; rw [if_neg (by simp [lackE_nat hm]), hasF_nat, h]; rfl
  exact ⟨he, by unfold useS; rw [if_neg (by rw [he]; decide)]⟩
theorem use_no {us : List Bool} {m : Nat} (hm : m < us.length) (h : us.getD m false = false) : useE us (m : Int) = 0 ∧ useS us (m : Int) = us.set m true := by
  have he : useE us (m : Int) = 0 := by unfold useE; rw [if_neg (by simp [lackE_nat hm]), hasF_nat, h]; rfl
  exact ⟨he, by unfold useS; rw [if_pos he]; simp⟩
theorem give_yes {us : List Bool} {m : Nat} (hm : m < us.length) (h : us.getD m false = true) : giveE us (m : Int) = 0 ∧ giveS us (m : Int) = us.set m false := by
  have he : giveE us (m : Int) = 0 := by unfold giveE; rw [if_neg (by simp [lackE_nat hm]), hasF_nat, h]; rfl
  exact ⟨he, by unfold giveS; rw [if_pos he]; simp⟩
theorem take_yes {us : List Bool} (h : nextF us 0 false < us.length) : lowF us = (nextF us 0 false : Nat) ∧ takeE us = 0 ∧ takeS us = us.set (nextF us 0 false) true := ⟨if_pos h, if_pos h, if_pos h⟩
theorem take_no {us : List Bool} (h : ¬ nextF us 0 false < us.length) : lowF us = -1 ∧ takeE us = 11 ∧ takeS us = us := ⟨if_neg h, if_neg h, if_neg h⟩
theorem left_full {us : List Bool} (h : ∀ i, i < us.length → us.getD i false = true) : leftF us = 0 := by
  unfold leftF
  rw [List.count_eq_zero]
  intro hm
  obtain ⟨i, hi, he⟩ := List.mem_iff_getElem.1 hm
  have := h i hi
  simp [List.getD_eq_getElem?_getD, hi, he] at this
theorem left_one {us : List Bool} {m : Nat} (hm : m < us.length) (h : ∀ i, i < us.length → us.getD i false = true) : leftF (us.set m false) = 1 := by
  have h0 := left_full h
  have hg := h m hm
  unfold leftF at *
  rw [List.count_set hm, h0]
  simp [List.getD_eq_getElem?_getD, hm] at hg
  simp [hg]
set_option maxRecDepth 100000 in
set_option maxHeartbeats 4000000 in
theorem lowest_walk (c : Nat) (v1 v2 : Value) (l1 l2 : List Nat) (w : World) (hT : Tab w) (hA1 : Hvs w v1 l1) (hA2 : Hvs w v2 l2) (hc : c < 65536) :
    Calls Tryd.prog 5 #[.int .u16 (c : Nat), v1, v2] w fun e w' => e = .returned (.bool true) ∧ w.grownBy w' none := by
  obtain ⟨hS1, hb1⟩ := hA1
  obtain ⟨ao, acap, rfl, _, _, hna, hxa⟩ := hS1
  obtain ⟨hS2, hb2⟩ := hA2
  obtain ⟨bo, bcap, rfl, _, _, hnb, hxb⟩ := hS2
  have HX1 := Lib.hid (And.intro hna (And.intro hxa hb1))
  have HX2 := Lib.hid (And.intro hnb (And.intro hxb hb2))
  have HT := Lib.hid hT
  clear hna hxa hb1 hnb hxb hb2 hT
  obtain ⟨n, hn⟩ : ∃ n, 1 + c % 1024 = n := ⟨_, rfl⟩
  have hn1 : 1 ≤ n := by omega
  have hn2 : n ≤ 1024 := by omega
  have hni : (1 : Int) + (c : Int) % 1024 = (n : Int) := by omega
  have hni2 : (c : Int) % 1024 + 1 = (n : Int) := by omega
  have hcw : IntKind.i64.wrap (c : Int) = (c : Int) := IntWalk.i64_in _ (by omega)
  have mk : ∀ W, (Instr.makeSlice 48 (.int .i64 (n : Nat)) (.int .i64 (n : Nat))).run Tryd.prog W = .ok (.slice (some ⟨W.heap.size, 0, none⟩) n n) (W.alloc (.cells (bools (List.replicate n false)).toArray 4)) := fun W => make_bools n (n : Nat) W rfl (by omega)
  clear hn hc
  go_enter Tryd.func5, Tryd.ntmps5
  go_wp2_with (first
    | (go_at_call 10; (with_reducible refine (works_any _ HT.out).mono ?_); rintro e w0 ⟨rfl, g0⟩)
    | (go_at_call 8; (with_reducible refine (new_yes n _ hn1 hn2).mono ?_); rintro e w1 ⟨rfl, P1, g1⟩))
  have hS0 : Side w n w0.heap.size w1.heap.size (List.replicate n false) (w1.alloc (.cells (bools (List.replicate n false)).toArray 4)) :=
    ⟨P1.keep0 (gb_alloc _ _ _), Blk.mk w1 _ _, g0.size, Nat.le_trans g0.size g1.size, List.length_replicate, hn2, gb_trans (gb_trans g0 g1) (gb_alloc _ _ _), HT.out⟩
  have HS0 := Lib.hid hS0
  obtain ⟨p, hp⟩ : ∃ p, w0.heap.size = p := ⟨_, rfl⟩
  obtain ⟨q, hq⟩ : ∃ q, w1.heap.size = q := ⟨_, rfl⟩
  rw [hp, hq] at HS0
  rw [hp, hq]
  generalize w1.alloc (.cells (bools (List.replicate n false)).toArray 4) = W0 at HS0 ⊢
  clear hS0 P1 g0 g1 mk hcw hni hni2 hp hq
  go_loopw [10] (fun v wr => ∃ (k : Nat) (us : List Bool), k ≤ l1.length ∧ v = .int .i64 k ∧ Side w n p q us wr) (fun v _ => l1.length - (intOf v).toNat)
  case atStart => exact ⟨0, _, by omega, rfl, HS0.out⟩
  case round =>
    obtain ⟨k, us, hk, rfl, hS⟩ := hrel
    have H := Lib.hid hS
    have HN := Lib.hid (show us.length ≤ 1024 by rw [hS.len]; exact hn2)
    clear hS HS0
    by_cases hin : k < l1.length ∧ k < 200
    · obtain ⟨hlt, h200⟩ := hin
      cases ao with
      | none => have := (HX1.out.1 rfl).1; omega
      | some x =>
        have c0 := H.out.grown.cell (HX1.out.2.1 x rfl k (.int .u16 (l1[k] : Nat)) (by simp [halvesC, hlt])) (by simp)
        have hub := HX1.out.2.2 l1[k] (List.getElem_mem hlt)
        generalize l1[k] = u at c0 hub
        have huw : IntKind.i64.wrap (u : Int) = (u : Int) := IntWalk.i64_in _ (by omega)
        obtain ⟨m, hm⟩ : ∃ m, u % n = m := ⟨_, rfl⟩
        have hmn : m < n := by rw [← hm]; exact Nat.mod_lt _ (by omega)
        have hm1 : (u : Int).tmod (n : Int) = (m : Int) := by rw [← hm]; exact (Int.ofNat_tmod _ _).symm
        have hm2 : (u : Int) % (n : Int) = (m : Int) := by rw [← hm]; exact (Int.natCast_emod _ _).symm
        have hmw : IntKind.i64.wrap (m : Int) = (m : Int) := IntWalk.i64_in _ (by omega)
        have hn0 : ((n : Int) = 0) = False := by simp; omega
        have cq := H.out.at m hmn
        have hmi : (m : Int) < (n : Int) := by omega
        obtain ⟨b, hb⟩ : ∃ b, us.getD m false = b := ⟨_, rfl⟩
        rw [hb] at cq
        clear hm
        cases b
        · have HE := Lib.hid (use_no (by rw [H.out.len]; exact hmn) hb)
          clear hb
          go_wp2
          refine wp_region_noPanic ?_
          refine wp_region_held_drew (S := fun w' => w'.cell? ⟨q, m, none⟩ = some (.bool false)) (by kernel_rfl) (show wr.cell? _ = _ from cq) (fun hHeld => ?_)
          refine wpAnyH_take (i := 0) (v := ?_) (List.getElem?_toArray.trans rfl) (by kernel_rfl) (by kernel_rfl) (by kernel_rfl) (fun _ _ _ h => h) (Or.inl ⟨by rfl, ?_⟩) hHeld ?_
          rotate_left
          · intro w' hSw; go_simp; try with_reducible rfl
          try simp only [Act.put, List.setIfInBounds_toArray, List.set_cons_zero, List.set_cons_succ]
          refine wpAnyH_take (i := 1) (v := ?_) (List.getElem?_toArray.trans rfl) (by kernel_rfl) (by kernel_rfl) (by kernel_rfl) (fun _ _ _ h => h) (Or.inl ⟨by rfl, ?_⟩) hHeld ?_
          rotate_left
          · intro w' hSw; go_simp; try with_reducible rfl
          try simp only [Act.put, List.setIfInBounds_toArray, List.set_cons_zero, List.set_cons_succ]
          refine wpAnyH_take (i := 4) (v := ?_) (List.getElem?_toArray.trans rfl) (by kernel_rfl) (by kernel_rfl) (by kernel_rfl) (fun _ _ _ h => h) (Or.inl ⟨by rfl, ?_⟩) hHeld ?_
          rotate_left
          · intro w' hSw; go_simp; try with_reducible rfl
          try simp only [Act.put, List.setIfInBounds_toArray, List.set_cons_zero, List.set_cons_succ]
          refine wpAnyH_take (i := 5) (v := ?_) (List.getElem?_toArray.trans rfl) (by kernel_rfl) (by kernel_rfl) (by kernel_rfl) (fun _ _ _ h => h) (Or.inl ⟨by rfl, ?_⟩) hHeld ?_
          rotate_left
          · intro w' hSw; go_simp; try with_reducible rfl
          try simp only [Act.put, List.setIfInBounds_toArray, List.set_cons_zero, List.set_cons_succ]
          refine wpAnyH_take (i := 6) (v := ?_) (List.getElem?_toArray.trans rfl) (by kernel_rfl) (by kernel_rfl) (by kernel_rfl) (fun _ _ _ h => h) (Or.inl ⟨by rfl, ?_⟩) hHeld ?_
          rotate_left
          · intro w' hSw; go_simp; try with_reducible rfl
          try simp only [Act.put, List.setIfInBounds_toArray, List.set_cons_zero, List.set_cons_succ]
          refine wpAnyH_take (i := 7) (v := ?_) (List.getElem?_toArray.trans rfl) (by kernel_rfl) (by kernel_rfl) (by kernel_rfl) (fun _ _ _ h => h) (Or.inl ⟨by rfl, ?_⟩) hHeld ?_
          rotate_left
          · intro w' hSw; go_simp; try with_reducible rfl
          try simp only [Act.put, List.setIfInBounds_toArray, List.set_cons_zero, List.set_cons_succ]
          refine wpAnyH_ready (rs := [2]) (by kernel_rfl) (by simp) ?_
          refine AllReadyH.cons (List.getElem?_toArray.trans rfl) (fun K hK => ?_) AllReadyH.nil
          go_simp
          go_at_call 11
          (with_reducible refine (u_use (us' := us.set m true) (z := 0) HE.out.1 HE.out.2 HN.out p _ (H.out.pm.keep0 (gb_drew _ _))).mono ?_)
          rintro e w2 ⟨rfl, P2, g2⟩
          refine hK.out _ _ (g2.cell hHeld (ne_some H.out.ne.symm)) (fun hHeld => ?_)
          clear hK K
          try simp only [Act.put, List.setIfInBounds_toArray, List.set_cons_zero, List.set_cons_succ]
          refine wpAnyH_take (i := 3) (v := ?_) (List.getElem?_toArray.trans rfl) (by kernel_rfl) (by kernel_rfl) (by kernel_rfl) (fun _ _ _ h => h) (Or.inl ⟨by rfl, ?_⟩) hHeld ?_
          rotate_left
          · intro w' hSw; go_simp; try with_reducible rfl
          try simp only [Act.put, List.setIfInBounds_toArray, List.set_cons_zero, List.set_cons_succ]
          refine wpAnyH_take (i := 8) (v := ?_) (List.getElem?_toArray.trans rfl) (by kernel_rfl) (by kernel_rfl) (by kernel_rfl) (fun _ _ _ h => h) (Or.inl ⟨by rfl, ?_⟩) hHeld ?_
          rotate_left
          · intro w' hSw; go_simp; try with_reducible rfl
          try simp only [Act.put, List.setIfInBounds_toArray, List.set_cons_zero, List.set_cons_succ]
          refine wpAnyH_done (by kernel_rfl) ?_ _
          refine NoPanic.normal ?_
          have hB2 := (Blk.keep (H.out.row.keep0 (gb_drew wr none)) g2 (ne_some H.out.ne.symm)).set m (.bool true)
          rw [bools_set] at hB2
          have f2 := Blk.free (Blk.keep (H.out.row.keep0 (gb_drew wr none)) g2 (ne_some H.out.ne.symm)) m
          have gs := gb_set w2 q m none (.bool true)
          have hnew : Side w n p q (us.set m true) (w2.setCell ⟨q, m, none⟩ (.bool true)) := ⟨P2.keep gs (ne_some H.out.ne), hB2, H.out.newp, H.out.newq, by rw [List.length_set]; exact H.out.len, H.out.small, gb_step (gb_step (gb_trans H.out.grown (gb_drew _ _)) g2 H.out.newp) gs H.out.newq, H.out.tab⟩
          have HNEW := Lib.hid hnew
          clear hnew hB2 gs P2 g2
          go_wp2
          go_roundw
          case rel => exact ⟨k + 1, _, by omega, by go_num, HNEW.out⟩
          case measure => simp [intOf]; omega
        · have HE := Lib.hid (use_yes (by rw [H.out.len]; exact hmn) hb)
          have HSM := Lib.hid (set_same (by rw [H.out.len]; exact hmn) hb)
          clear hb
          go_wp2
          refine wp_region_noPanic ?_
          refine wp_region_held_drew (S := fun w' => w'.cell? ⟨q, m, none⟩ = some (.bool true)) (by kernel_rfl) (show wr.cell? _ = _ from cq) (fun hHeld => ?_)
          refine wpAnyH_take (i := 0) (v := ?_) (List.getElem?_toArray.trans rfl) (by kernel_rfl) (by kernel_rfl) (by kernel_rfl) (fun _ _ _ h => h) (Or.inl ⟨by rfl, ?_⟩) hHeld ?_
          rotate_left
          · intro w' hSw; go_simp; try with_reducible rfl
          try simp only [Act.put, List.setIfInBounds_toArray, List.set_cons_zero, List.set_cons_succ]
          refine wpAnyH_take (i := 1) (v := ?_) (List.getElem?_toArray.trans rfl) (by kernel_rfl) (by kernel_rfl) (by kernel_rfl) (fun _ _ _ h => h) (Or.inl ⟨by rfl, ?_⟩) hHeld ?_
          rotate_left
          · intro w' hSw; go_simp; try with_reducible rfl
          try simp only [Act.put, List.setIfInBounds_toArray, List.set_cons_zero, List.set_cons_succ]
          refine wpAnyH_take (i := 4) (v := ?_) (List.getElem?_toArray.trans rfl) (by kernel_rfl) (by kernel_rfl) (by kernel_rfl) (fun _ _ _ h => h) (Or.inl ⟨by rfl, ?_⟩) hHeld ?_
          rotate_left
          · intro w' hSw; go_simp; try with_reducible rfl
          try simp only [Act.put, List.setIfInBounds_toArray, List.set_cons_zero, List.set_cons_succ]
          refine wpAnyH_take (i := 5) (v := ?_) (List.getElem?_toArray.trans rfl) (by kernel_rfl) (by kernel_rfl) (by kernel_rfl) (fun _ _ _ h => h) (Or.inl ⟨by rfl, ?_⟩) hHeld ?_
          rotate_left
          · intro w' hSw; go_simp; try with_reducible rfl
          try simp only [Act.put, List.setIfInBounds_toArray, List.set_cons_zero, List.set_cons_succ]
          refine wpAnyH_take (i := 6) (v := ?_) (List.getElem?_toArray.trans rfl) (by kernel_rfl) (by kernel_rfl) (by kernel_rfl) (fun _ _ _ h => h) (Or.inl ⟨by rfl, ?_⟩) hHeld ?_
          rotate_left
          · intro w' hSw; go_simp; try with_reducible rfl
          try simp only [Act.put, List.setIfInBounds_toArray, List.set_cons_zero, List.set_cons_succ]
          refine wpAnyH_take (i := 7) (v := ?_) (List.getElem?_toArray.trans rfl) (by kernel_rfl) (by kernel_rfl) (by kernel_rfl) (fun _ _ _ h => h) (Or.inl ⟨by rfl, ?_⟩) hHeld ?_
          rotate_left
          · intro w' hSw; go_simp; try with_reducible rfl
          try simp only [Act.put, List.setIfInBounds_toArray, List.set_cons_zero, List.set_cons_succ]
          refine wpAnyH_ready (rs := [2]) (by kernel_rfl) (by simp) ?_
          refine AllReadyH.cons (List.getElem?_toArray.trans rfl) (fun K hK => ?_) AllReadyH.nil
          go_simp
          go_at_call 11
          (with_reducible refine (u_use (us' := us) (z := 12) HE.out.1 HE.out.2 HN.out p _ (H.out.pm.keep0 (gb_drew _ _))).mono ?_)
          rintro e w2 ⟨rfl, P2, g2⟩
          refine hK.out _ _ (g2.cell hHeld (ne_some H.out.ne.symm)) (fun hHeld => ?_)
          clear hK K
          try simp only [Act.put, List.setIfInBounds_toArray, List.set_cons_zero, List.set_cons_succ]
          refine wpAnyH_take (i := 3) (v := ?_) (List.getElem?_toArray.trans rfl) (by kernel_rfl) (by kernel_rfl) (by kernel_rfl) (fun _ _ _ h => h) (Or.inl ⟨by rfl, ?_⟩) hHeld ?_
          rotate_left
          · intro w' hSw; go_simp; try with_reducible rfl
          try simp only [Act.put, List.setIfInBounds_toArray, List.set_cons_zero, List.set_cons_succ]
          refine wpAnyH_take (i := 8) (v := ?_) (List.getElem?_toArray.trans rfl) (by kernel_rfl) (by kernel_rfl) (by kernel_rfl) (fun _ _ _ h => h) (Or.inl ⟨by rfl, ?_⟩) hHeld ?_
          rotate_left
          · intro w' hSw; go_simp; try with_reducible rfl
          try simp only [Act.put, List.setIfInBounds_toArray, List.set_cons_zero, List.set_cons_succ]
          refine wpAnyH_done (by kernel_rfl) ?_ _
          refine NoPanic.normal ?_
          have P2' : PM w2 p (us.set m true) := by rw [HSM.out]; exact P2
          have hB2 := (Blk.keep (H.out.row.keep0 (gb_drew wr none)) g2 (ne_some H.out.ne.symm)).set m (.bool true)
          rw [bools_set] at hB2
          have f2 := Blk.free (Blk.keep (H.out.row.keep0 (gb_drew wr none)) g2 (ne_some H.out.ne.symm)) m
          have gs := gb_set w2 q m none (.bool true)
          have hnew : Side w n p q (us.set m true) (w2.setCell ⟨q, m, none⟩ (.bool true)) := ⟨P2'.keep gs (ne_some H.out.ne), hB2, H.out.newp, H.out.newq, by rw [List.length_set]; exact H.out.len, H.out.small, gb_step (gb_step (gb_trans H.out.grown (gb_drew _ _)) g2 H.out.newp) gs H.out.newq, H.out.tab⟩
          have HNEW := Lib.hid hnew
          clear hnew hB2 gs P2 P2' g2
          go_wp2
          go_roundw
          case rel => exact ⟨k + 1, _, by omega, by go_num, HNEW.out⟩
          case measure => simp [intOf]; omega
    · by_cases hlt : k < l1.length
      · have h200 : ¬ ((k : Int) < 200) := by omega
        clear hin
        go_wp2_with fail
        go_loopw [12, 13] (fun v12 v13 wr => ∃ (a i : Nat) (us : List Bool), a ≤ l2.length ∧ i ≤ 2 * n + 1 ∧ v12 = .int .i64 a ∧ v13 = .int .i64 i ∧ Side w n p q us wr) (fun _ v _ => 2 * n + 2 - (intOf v).toNat)
        case atStart => exact ⟨0, 0, us, by omega, by omega, rfl, rfl, H.out⟩
        case round =>
          clear HN H
          obtain ⟨a, i, us, ha, hi, rfl, rfl, hS⟩ := hrel
          have H := Lib.hid hS
          have hul := hS.len
          have HN := Lib.hid (show us.length ≤ 1024 by rw [hS.len]; exact hn2)
          clear hS
          by_cases hin : i < 2 * n + 1
          · by_cases hf : nextF us 0 false < us.length
            · have hsp := nextF_spec us 0 false (Nat.zero_le _)
              have hty := take_yes hf
              obtain ⟨f, hfe⟩ : ∃ f, nextF us 0 false = f := ⟨_, rfl⟩
              rw [hfe] at hsp hty hf
              rw [hul] at hf
              have HTY := Lib.hid hty
              have HSP := Lib.hid hsp
              clear hsp hty hfe hul
              go_wp2_with fail
              go_at_call 15
              (with_reducible refine (u_take (x := (f : Nat)) (z := 0) (us' := us.set f true) HTY.out.1 HTY.out.2.1 HTY.out.2.2 HN.out p _ H.out.pm H.out.tabW).mono ?_)
              rintro e w2 ⟨rfl, P2, g2⟩
              have hB2 := Blk.keep H.out.row g2 (ne_some H.out.ne.symm)
              have H2 := Lib.hid (And.intro P2 (And.intro g2 hB2))
              clear P2 g2 hB2
              go_wp2_with fail
              go_loop [16, 17] (fun v16 v17 => ∃ j : Nat, j ≤ f ∧ v17 = .int .i64 j ∧ v16 = .int .i64 (-1)) (fun _ v => n - (intOf v).toNat)
              case atStart => exact ⟨0, by omega, rfl, rfl⟩
              case round =>
                obtain ⟨j, hj, rfl, rfl⟩ := hrel
                have cq : w2.cell? ⟨q, j, none⟩ = some (.bool (us.getD j false)) := H2.out.2.2.cell j (by rw [List.getElem?_toArray]; exact bools_at (by rw [H.out.len]; omega))
                have hji : (j : Int) < (n : Int) := by omega
                by_cases hjf : j = f
                · subst hjf
                  rw [HSP.out.2.2.2 (by rw [H.out.len]; exact hf)] at cq
                  have f2 := Blk.free H2.out.2.2 j
                  have hB3 := H2.out.2.2.set j (.bool true)
                  rw [bools_set] at hB3
                  have gs := gb_set w2 q j none (.bool true)
                  have hnew : Side w n p q (us.set j true) (w2.setCell ⟨q, j, none⟩ (.bool true)) := ⟨H2.out.1.keep gs (ne_some H.out.ne), hB3, H.out.newp, H.out.newq, by rw [List.length_set]; exact H.out.len, H.out.small, gb_step (gb_step H.out.grown H2.out.2.1 H.out.newp) gs H.out.newq, H.out.tab⟩
                  have HNEW := Lib.hid hnew
                  clear hnew hB3 gs
                  have hj0 : (0 : Int) ≤ (j : Int) := by omega
                  go_wp2
                  go_roundw
                  case rel => exact ⟨a, i + 1, _, by omega, by omega, rfl, by go_num, HNEW.out⟩
                  case measure => simp [intOf]; omega
                · rw [HSP.out.2.2.1 j (Nat.zero_le _) (by omega)] at cq
                  go_wp2
                  go_round
                  case rel => exact ⟨j + 1, by omega, by go_num, rfl⟩
                  case measure => simp [intOf]; omega
            · have hsp := nextF_spec us 0 false (Nat.zero_le _)
              have hall : ∀ i, i < us.length → us.getD i false = true := fun i hi => hsp.2.2.1 i (Nat.zero_le _) (by omega)
              have HTY := Lib.hid (take_no hf)
              have HALL := Lib.hid hall
              clear hsp hall hf
              go_wp2_with fail
              go_at_call 15
              (with_reducible refine (u_take (x := -1) (z := 11) (us' := us) HTY.out.1 HTY.out.2.1 HTY.out.2.2 HN.out p _ H.out.pm H.out.tabW).mono ?_)
              rintro e w2 ⟨rfl, P2, g2⟩
              have hB2 := Blk.keep H.out.row g2 (ne_some H.out.ne.symm)
              have H2 := Lib.hid (show Side w n p q us w2 from ⟨P2, hB2, H.out.newp, H.out.newq, H.out.len, H.out.small, gb_step H.out.grown g2 H.out.newp, H.out.tab⟩)
              clear P2 g2 hB2
              go_wp2_with fail
              go_loop [16, 17] (fun v16 v17 => ∃ j : Nat, j ≤ n ∧ v17 = .int .i64 j ∧ v16 = .int .i64 (-1)) (fun _ v => n - (intOf v).toNat)
              case atStart => exact ⟨0, by omega, rfl, rfl⟩
              case round =>
                obtain ⟨j, hj, rfl, rfl⟩ := hrel
                by_cases hjn : j < n
                · have cq := H2.out.at j hjn
                  have hji : (j : Int) < (n : Int) := by omega
                  rw [HALL.out j (by rw [H.out.len]; exact hjn)] at cq
                  go_wp2
                  go_round
                  case rel => exact ⟨j + 1, by omega, by go_num, rfl⟩
                  case measure => simp [intOf]; omega
                · by_cases hgo : a < l2.length ∧ a < 100
                  · obtain ⟨hal, ha100⟩ := hgo
                    cases bo with
                    | none => have := (HX2.out.1 rfl).1; omega
                    | some y =>
                      have c0 := H2.out.grown.cell (HX2.out.2.1 y rfl a (.int .u16 (l2[a] : Nat)) (by simp [halvesC, hal])) (by simp)
                      have hub := HX2.out.2.2 l2[a] (List.getElem_mem hal)
                      generalize l2[a] = u at c0 hub
                      have huw : IntKind.i64.wrap (u : Int) = (u : Int) := IntWalk.i64_in _ (by omega)
                      obtain ⟨m, hm⟩ : ∃ m, u % n = m := ⟨_, rfl⟩
                      have hmn : m < n := by rw [← hm]; exact Nat.mod_lt _ (by omega)
                      have hm1 : (u : Int).tmod (n : Int) = (m : Int) := by rw [← hm]; exact (Int.ofNat_tmod _ _).symm
                      have hm2 : (u : Int) % (n : Int) = (m : Int) := by rw [← hm]; exact (Int.natCast_emod _ _).symm
                      have hmw : IntKind.i64.wrap (m : Int) = (m : Int) := IntWalk.i64_in _ (by omega)
                      have hn0 : ((n : Int) = 0) = False := by simp; omega
                      have cq := H2.out.at m hmn
                      have fq := H2.out.row.free m
                      have hml : m < us.length := by rw [H.out.len]; exact hmn
                      rw [HALL.out m hml] at cq
                      have HE := Lib.hid (give_yes hml (HALL.out m hml))
                      have HL1 := Lib.hid (show ((leftF (us.set m false) : Nat) : Int) = 1 by rw [left_one hml HALL.out]; rfl)
                      have hmi : (m : Int) < (n : Int) := by omega
                      have hai : ¬ ((l2.length : Int) ≤ (a : Int)) := by omega
                      have hai2 : ¬ ((100 : Int) ≤ (a : Int)) := by omega
                      clear hm hml
                      go_wp2_with fail
                      go_at_call 13
                      (with_reducible refine (u_give (z := 0) (us' := us.set m false) HE.out.1 HE.out.2 HN.out p _ H2.out.pm).mono ?_)
                      rintro e w3 ⟨rfl, P3, g3⟩
                      have fq3 := (Blk.keep H2.out.row g3 (ne_some H2.out.ne.symm)).free m
                      have cq3 := g3.cell cq (ne_some H2.out.ne.symm)
                      have hB3 := Blk.keep H2.out.row g3 (ne_some H2.out.ne.symm)
                      have H3 := Lib.hid (And.intro P3 (And.intro g3 hB3))
                      clear P3 g3 hB3 cq fq
                      go_wp2_with fail
                      go_at_call 21
                      (with_reducible refine (u_left HL1.out (by rw [List.length_set]; exact HN.out) p _ H3.out.1).mono ?_)
                      rintro e w' ⟨rfl, rfl⟩
                      have hB4 := H3.out.2.2.set m (.bool false)
                      rw [bools_set] at hB4
                      have gs := gb_set w3 q m none (.bool false)
                      have hnew : Side w n p q (us.set m false) (w3.setCell ⟨q, m, none⟩ (.bool false)) := ⟨H3.out.1.keep gs (ne_some H2.out.ne), hB4, H2.out.newp, H2.out.newq, by rw [List.length_set]; exact H2.out.len, H2.out.small, gb_step (gb_step H2.out.grown H3.out.2.1 H2.out.newp) gs H2.out.newq, H2.out.tab⟩
                      have HNEW := Lib.hid hnew
                      clear hnew hB4 gs
                      go_wp2
                      go_roundw
                      case rel => exact ⟨a + 1, i + 1, _, by omega, by omega, by go_num, by go_num, HNEW.out⟩
                      case measure => simp [intOf]; omega
                  · have HL := Lib.hid (show ((leftF us : Nat) : Int) = 0 by rw [left_full HALL.out]; rfl)
                    have HRU := Lib.hid (runsF_full HALL.out)
                    by_cases hal : a < l2.length
                    · have ha100 : (100 : Int) ≤ (a : Int) := by omega
                      have hal2 : ¬ ((l2.length : Int) ≤ (a : Int)) := by omega
                      clear hgo
                      go_wp2_with (first
                        | (go_at_call 21; (with_reducible refine (u_left HL.out HN.out p _ H2.out.pm).mono ?_); rintro e w' ⟨rfl, rfl⟩)
                        | (go_at_call 25; (with_reducible refine (u_runs HRU.out HN.out p _ H2.out.pm H2.out.tabW).mono ?_); rintro e w3 ⟨vr, rfl, hvr, g3⟩; obtain ⟨ro, rcap, rfl, _, _, _, -⟩ := hvr))
                      go_ret
                      exact ⟨rfl, gb_trans H2.out.grown g3⟩
                    · have hal2 : (l2.length : Int) ≤ (a : Int) := by omega
                      clear hgo
                      go_wp2_with (first
                        | (go_at_call 21; (with_reducible refine (u_left HL.out HN.out p _ H2.out.pm).mono ?_); rintro e w' ⟨rfl, rfl⟩)
                        | (go_at_call 25; (with_reducible refine (u_runs HRU.out HN.out p _ H2.out.pm H2.out.tabW).mono ?_); rintro e w3 ⟨vr, rfl, hvr, g3⟩; obtain ⟨ro, rcap, rfl, _, _, _, -⟩ := hvr))
                      go_ret
                      exact ⟨rfl, gb_trans H2.out.grown g3⟩
          · have hin' : ¬ ((i : Int) < 2 * (n : Int) + 1) := by omega
            clear hin
            go_wp2
            go_ret
            exact ⟨rfl, H.out.grown⟩
      · clear hin
        go_wp2_with fail
        go_loopw [12, 13] (fun v12 v13 wr => ∃ (a i : Nat) (us : List Bool), a ≤ l2.length ∧ i ≤ 2 * n + 1 ∧ v12 = .int .i64 a ∧ v13 = .int .i64 i ∧ Side w n p q us wr) (fun _ v _ => 2 * n + 2 - (intOf v).toNat)
        case atStart => exact ⟨0, 0, us, by omega, by omega, rfl, rfl, H.out⟩
        case round =>
          clear HN H
          obtain ⟨a, i, us, ha, hi, rfl, rfl, hS⟩ := hrel
          have H := Lib.hid hS
          have hul := hS.len
          have HN := Lib.hid (show us.length ≤ 1024 by rw [hS.len]; exact hn2)
          clear hS
          by_cases hin : i < 2 * n + 1
          · by_cases hf : nextF us 0 false < us.length
            · have hsp := nextF_spec us 0 false (Nat.zero_le _)
              have hty := take_yes hf
              obtain ⟨f, hfe⟩ : ∃ f, nextF us 0 false = f := ⟨_, rfl⟩
              rw [hfe] at hsp hty hf
              rw [hul] at hf
              have HTY := Lib.hid hty
              have HSP := Lib.hid hsp
              clear hsp hty hfe hul
              go_wp2_with fail
              go_at_call 15
              (with_reducible refine (u_take (x := (f : Nat)) (z := 0) (us' := us.set f true) HTY.out.1 HTY.out.2.1 HTY.out.2.2 HN.out p _ H.out.pm H.out.tabW).mono ?_)
              rintro e w2 ⟨rfl, P2, g2⟩
              have hB2 := Blk.keep H.out.row g2 (ne_some H.out.ne.symm)
              have H2 := Lib.hid (And.intro P2 (And.intro g2 hB2))
              clear P2 g2 hB2
              go_wp2_with fail
              go_loop [16, 17] (fun v16 v17 => ∃ j : Nat, j ≤ f ∧ v17 = .int .i64 j ∧ v16 = .int .i64 (-1)) (fun _ v => n - (intOf v).toNat)
              case atStart => exact ⟨0, by omega, rfl, rfl⟩
              case round =>
                obtain ⟨j, hj, rfl, rfl⟩ := hrel
                have cq : w2.cell? ⟨q, j, none⟩ = some (.bool (us.getD j false)) := H2.out.2.2.cell j (by rw [List.getElem?_toArray]; exact bools_at (by rw [H.out.len]; omega))
                have hji : (j : Int) < (n : Int) := by omega
                by_cases hjf : j = f
                · subst hjf
                  rw [HSP.out.2.2.2 (by rw [H.out.len]; exact hf)] at cq
                  have f2 := Blk.free H2.out.2.2 j
                  have hB3 := H2.out.2.2.set j (.bool true)
                  rw [bools_set] at hB3
                  have gs := gb_set w2 q j none (.bool true)
                  have hnew : Side w n p q (us.set j true) (w2.setCell ⟨q, j, none⟩ (.bool true)) := ⟨H2.out.1.keep gs (ne_some H.out.ne), hB3, H.out.newp, H.out.newq, by rw [List.length_set]; exact H.out.len, H.out.small, gb_step (gb_step H.out.grown H2.out.2.1 H.out.newp) gs H.out.newq, H.out.tab⟩
                  have HNEW := Lib.hid hnew
                  clear hnew hB3 gs
                  have hj0 : (0 : Int) ≤ (j : Int) := by omega
                  go_wp2
                  go_roundw
                  case rel => exact ⟨a, i + 1, _, by omega, by omega, rfl, by go_num, HNEW.out⟩
                  case measure => simp [intOf]; omega
                · rw [HSP.out.2.2.1 j (Nat.zero_le _) (by omega)] at cq
                  go_wp2
                  go_round
                  case rel => exact ⟨j + 1, by omega, by go_num, rfl⟩
                  case measure => simp [intOf]; omega
            · have hsp := nextF_spec us 0 false (Nat.zero_le _)
              have hall : ∀ i, i < us.length → us.getD i false = true := fun i hi => hsp.2.2.1 i (Nat.zero_le _) (by omega)
              have HTY := Lib.hid (take_no hf)
              have HALL := Lib.hid hall
              clear hsp hall hf
              go_wp2_with fail
              go_at_call 15
              (with_reducible refine (u_take (x := -1) (z := 11) (us' := us) HTY.out.1 HTY.out.2.1 HTY.out.2.2 HN.out p _ H.out.pm H.out.tabW).mono ?_)
              rintro e w2 ⟨rfl, P2, g2⟩
              have hB2 := Blk.keep H.out.row g2 (ne_some H.out.ne.symm)
              have H2 := Lib.hid (show Side w n p q us w2 from ⟨P2, hB2, H.out.newp, H.out.newq, H.out.len, H.out.small, gb_step H.out.grown g2 H.out.newp, H.out.tab⟩)
              clear P2 g2 hB2
              go_wp2_with fail
              go_loop [16, 17] (fun v16 v17 => ∃ j : Nat, j ≤ n ∧ v17 = .int .i64 j ∧ v16 = .int .i64 (-1)) (fun _ v => n - (intOf v).toNat)
              case atStart => exact ⟨0, by omega, rfl, rfl⟩
              case round =>
                obtain ⟨j, hj, rfl, rfl⟩ := hrel
                by_cases hjn : j < n
                · have cq := H2.out.at j hjn
                  have hji : (j : Int) < (n : Int) := by omega
                  rw [HALL.out j (by rw [H.out.len]; exact hjn)] at cq
                  go_wp2
                  go_round
                  case rel => exact ⟨j + 1, by omega, by go_num, rfl⟩
                  case measure => simp [intOf]; omega
                · by_cases hgo : a < l2.length ∧ a < 100
                  · obtain ⟨hal, ha100⟩ := hgo
                    cases bo with
                    | none => have := (HX2.out.1 rfl).1; omega
                    | some y =>
                      have c0 := H2.out.grown.cell (HX2.out.2.1 y rfl a (.int .u16 (l2[a] : Nat)) (by simp [halvesC, hal])) (by simp)
                      have hub := HX2.out.2.2 l2[a] (List.getElem_mem hal)
                      generalize l2[a] = u at c0 hub
                      have huw : IntKind.i64.wrap (u : Int) = (u : Int) := IntWalk.i64_in _ (by omega)
                      obtain ⟨m, hm⟩ : ∃ m, u % n = m := ⟨_, rfl⟩
                      have hmn : m < n := by rw [← hm]; exact Nat.mod_lt _ (by omega)
                      have hm1 : (u : Int).tmod (n : Int) = (m : Int) := by rw [← hm]; exact (Int.ofNat_tmod _ _).symm
                      have hm2 : (u : Int) % (n : Int) = (m : Int) := by rw [← hm]; exact (Int.natCast_emod _ _).symm
                      have hmw : IntKind.i64.wrap (m : Int) = (m : Int) := IntWalk.i64_in _ (by omega)
                      have hn0 : ((n : Int) = 0) = False := by simp; omega
                      have cq := H2.out.at m hmn
                      have fq := H2.out.row.free m
                      have hml : m < us.length := by rw [H.out.len]; exact hmn
                      rw [HALL.out m hml] at cq
                      have HE := Lib.hid (give_yes hml (HALL.out m hml))
                      have HL1 := Lib.hid (show ((leftF (us.set m false) : Nat) : Int) = 1 by rw [left_one hml HALL.out]; rfl)
                      have hmi : (m : Int) < (n : Int) := by omega
                      have hai : ¬ ((l2.length : Int) ≤ (a : Int)) := by omega
                      have hai2 : ¬ ((100 : Int) ≤ (a : Int)) := by omega
                      clear hm hml
                      go_wp2_with fail
                      go_at_call 13
                      (with_reducible refine (u_give (z := 0) (us' := us.set m false) HE.out.1 HE.out.2 HN.out p _ H2.out.pm).mono ?_)
                      rintro e w3 ⟨rfl, P3, g3⟩
                      have fq3 := (Blk.keep H2.out.row g3 (ne_some H2.out.ne.symm)).free m
                      have cq3 := g3.cell cq (ne_some H2.out.ne.symm)
                      have hB3 := Blk.keep H2.out.row g3 (ne_some H2.out.ne.symm)
                      have H3 := Lib.hid (And.intro P3 (And.intro g3 hB3))
                      clear P3 g3 hB3 cq fq
                      go_wp2_with fail
                      go_at_call 21
                      (with_reducible refine (u_left HL1.out (by rw [List.length_set]; exact HN.out) p _ H3.out.1).mono ?_)
                      rintro e w' ⟨rfl, rfl⟩
                      have hB4 := H3.out.2.2.set m (.bool false)
                      rw [bools_set] at hB4
                      have gs := gb_set w3 q m none (.bool false)
                      have hnew : Side w n p q (us.set m false) (w3.setCell ⟨q, m, none⟩ (.bool false)) := ⟨H3.out.1.keep gs (ne_some H2.out.ne), hB4, H2.out.newp, H2.out.newq, by rw [List.length_set]; exact H2.out.len, H2.out.small, gb_step (gb_step H2.out.grown H3.out.2.1 H2.out.newp) gs H2.out.newq, H2.out.tab⟩
                      have HNEW := Lib.hid hnew
                      clear hnew hB4 gs
                      go_wp2
                      go_roundw
                      case rel => exact ⟨a + 1, i + 1, _, by omega, by omega, by go_num, by go_num, HNEW.out⟩
                      case measure => simp [intOf]; omega
                  · have HL := Lib.hid (show ((leftF us : Nat) : Int) = 0 by rw [left_full HALL.out]; rfl)
                    have HRU := Lib.hid (runsF_full HALL.out)
                    by_cases hal : a < l2.length
                    · have ha100 : (100 : Int) ≤ (a : Int) := by omega
                      have hal2 : ¬ ((l2.length : Int) ≤ (a : Int)) := by omega
                      clear hgo
                      go_wp2_with (first
                        | (go_at_call 21; (with_reducible refine (u_left HL.out HN.out p _ H2.out.pm).mono ?_); rintro e w' ⟨rfl, rfl⟩)
                        | (go_at_call 25; (with_reducible refine (u_runs HRU.out HN.out p _ H2.out.pm H2.out.tabW).mono ?_); rintro e w3 ⟨vr, rfl, hvr, g3⟩; obtain ⟨ro, rcap, rfl, _, _, _, -⟩ := hvr))
                      go_ret
                      exact ⟨rfl, gb_trans H2.out.grown g3⟩
                    · have hal2 : (l2.length : Int) ≤ (a : Int) := by omega
                      clear hgo
                      go_wp2_with (first
                        | (go_at_call 21; (with_reducible refine (u_left HL.out HN.out p _ H2.out.pm).mono ?_); rintro e w' ⟨rfl, rfl⟩)
                        | (go_at_call 25; (with_reducible refine (u_runs HRU.out HN.out p _ H2.out.pm H2.out.tabW).mono ?_); rintro e w3 ⟨vr, rfl, hvr, g3⟩; obtain ⟨ro, rcap, rfl, _, _, _, -⟩ := hvr))
                      go_ret
                      exact ⟨rfl, gb_trans H2.out.grown g3⟩
          · have hin' : ¬ ((i : Int) < 2 * (n : Int) + 1) := by omega
            clear hin
            go_wp2
            go_ret
            exact ⟨rfl, H.out.grown⟩
end Go.Proofs.YtaihcbkdbdhihaaDoor
