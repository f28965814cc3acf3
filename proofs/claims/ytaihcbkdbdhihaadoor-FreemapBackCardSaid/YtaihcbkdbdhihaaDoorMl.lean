/-
  The program's map is held against the document's own (alike), over this seat's translation; condition: the table of math/bits reads as the library lays it, and both are of the same things.
-/
import Derived.Test.YtaihcbkdbdhihaaDoorMk
import Derived.OrdersHeld
import Derived.Deep.RegionHeld3
namespace Go.Proofs.YtaihcbkdbdhihaaDoor
open Go.RowKit

theorem add_add (a : Addr) (i j : Nat) : (a.add i).add j = a.add (i + j) := by
  unfold Addr.add
  by_cases hi : i = 0
  · subst hi; simp
  · by_cases hj : j = 0
    · subst hj; simp [hi]
    · simp [hi, hj, Nat.add_assoc]
theorem gb_eq {a b : World} (h : a = b) : a.grownBy b none := by subst h; exact gb_refl _ _
theorem has_bd (us : List Bool) (k : Nat) (l : List (Nat × Nat)) (hl : l = runsF us) (hk : k < l.length) : l[k].1 + l[k].2 ≤ us.length := (runsF_bd (p := l[k]) (by rw [← hl]; exact List.getElem_mem hk)).2.1
set_option maxRecDepth 100000 in
set_option maxHeartbeats 4000000 in
theorem alike_any (p rp rq : Nat) (us : List Bool) (w : World) (hP : PM w p us) (hR : RM w rp rq us) (hT : Tab w) (hn : us.length ≤ 1024) :
    Calls Tryd.prog 18 #[.pointer (some ⟨p, 0, none⟩), .pointer (some ⟨rp, 0, none⟩)] w fun e w' => e = .returned (.bool true) ∧ w.grownBy w' none := by
  have hh := hR.head
  have HP := Lib.hid hP
  have HR := Lib.hid hR
  have HT := Lib.hid hT
  have hne : ((us.length : Int) != (us.length : Int)) = false := by simp
  have hne2 : (((leftF us : Nat) : Int) != ((leftF us : Nat) : Int)) = false := by simp
  have hne3 : ((putB us).toList == (putB us).toList) = true := by simp
  clear hP hR hT
  go_enter Tryd.func18, Tryd.ntmps18
  go_wp2
  refine wp_region_noPanic ?_
  refine wp_region_held_drew (S := fun w' => (w).grownBy w' none) (by kernel_rfl) (gb_drew _ _) (fun hHeld => ?_)
  refine wpAnyH_take (i := 0) (v := ?_) (List.getElem?_toArray.trans rfl) (by kernel_rfl) (by kernel_rfl) (by kernel_rfl) (fun _ _ _ h => h) (Or.inl ⟨by rfl, ?_⟩) hHeld ?_
  rotate_left
  · intro w' hSw; have q0 := hSw.cell hh (by simp); go_simp; try with_reducible rfl
  try simp only [Act.put, List.setIfInBounds_toArray, List.set_cons_zero, List.set_cons_succ]
  refine wpAnyH_take (i := 2) (v := ?_) (List.getElem?_toArray.trans rfl) (by kernel_rfl) (by kernel_rfl) (by kernel_rfl) (fun _ _ _ h => h) (Or.inl ⟨by rfl, ?_⟩) hHeld ?_
  rotate_left
  · intro w' hSw; have q0 := hSw.cell hh (by simp); go_simp; try with_reducible rfl
  try simp only [Act.put, List.setIfInBounds_toArray, List.set_cons_zero, List.set_cons_succ]
  refine wpAnyH_take (i := 3) (v := ?_) (List.getElem?_toArray.trans rfl) (by kernel_rfl) (by kernel_rfl) (by kernel_rfl) (fun _ _ _ h => h) (Or.inl ⟨by rfl, ?_⟩) hHeld ?_
  rotate_left
  · intro w' hSw; have q0 := hSw.cell hh (by simp); go_simp; try with_reducible rfl
  try simp only [Act.put, List.setIfInBounds_toArray, List.set_cons_zero, List.set_cons_succ]
  refine wpAnyH_take (i := 4) (v := ?_) (List.getElem?_toArray.trans rfl) (by kernel_rfl) (by kernel_rfl) (by kernel_rfl) (fun _ _ _ h => h) (Or.inl ⟨by rfl, ?_⟩) hHeld ?_
  rotate_left
  · intro w' hSw; have q0 := hSw.cell hh (by simp); go_simp; try with_reducible rfl
  try simp only [Act.put, List.setIfInBounds_toArray, List.set_cons_zero, List.set_cons_succ]
  refine wpAnyH_take (i := 5) (v := ?_) (List.getElem?_toArray.trans rfl) (by kernel_rfl) (by kernel_rfl) (by kernel_rfl) (fun _ _ _ h => h) (Or.inl ⟨by rfl, ?_⟩) hHeld ?_
  rotate_left
  · intro w' hSw; have q0 := hSw.cell hh (by simp); go_simp; try with_reducible rfl
  try simp only [Act.put, List.setIfInBounds_toArray, List.set_cons_zero, List.set_cons_succ]
  refine wpAnyH_take (i := 6) (v := ?_) (List.getElem?_toArray.trans rfl) (by kernel_rfl) (by kernel_rfl) (by kernel_rfl) (fun _ _ _ h => h) (Or.inl ⟨by rfl, ?_⟩) hHeld ?_
  rotate_left
  · intro w' hSw; have q0 := hSw.cell hh (by simp); go_simp; try with_reducible rfl
  try simp only [Act.put, List.setIfInBounds_toArray, List.set_cons_zero, List.set_cons_succ]
  refine wpAnyH_ready (rs := [1]) (by kernel_rfl) (by simp) ?_
  refine AllReadyH.cons (List.getElem?_toArray.trans rfl) (fun K hK => ?_) AllReadyH.nil
  go_simp
  go_at_call 27
  (with_reducible refine (len_any p us _ (HP.out.keep0 hHeld)).mono ?_)
  rintro e wN ⟨rfl, gN'⟩
  have gN := gb_eq gN'
  refine hK.out _ _ (gb_trans hHeld gN) (fun hHeld => ?_)
  clear hK K
  try simp only [Act.put, List.setIfInBounds_toArray, List.set_cons_zero, List.set_cons_succ]
  refine wpAnyH_take (i := 7) (v := ?_) (List.getElem?_toArray.trans rfl) (by kernel_rfl) (by kernel_rfl) (by kernel_rfl) (fun _ _ _ h => h) (Or.inl ⟨by rfl, ?_⟩) hHeld ?_
  rotate_left
  · intro w' hSw; have q0 := hSw.cell hh (by simp); go_simp; try with_reducible rfl
  try simp only [Act.put, List.setIfInBounds_toArray, List.set_cons_zero, List.set_cons_succ]
  refine wpAnyH_take (i := 8) (v := ?_) (List.getElem?_toArray.trans rfl) (by kernel_rfl) (by kernel_rfl) (by kernel_rfl) (fun _ _ _ h => h) (Or.inl ⟨by rfl, ?_⟩) hHeld ?_
  rotate_left
  · intro w' hSw; have q0 := hSw.cell hh (by simp); go_simp; try with_reducible rfl
  try simp only [Act.put, List.setIfInBounds_toArray, List.set_cons_zero, List.set_cons_succ]
  refine wpAnyH_take (i := 9) (v := ?_) (List.getElem?_toArray.trans rfl) (by kernel_rfl) (by kernel_rfl) (by kernel_rfl) (fun _ _ _ h => h) (Or.inl ⟨by rfl, ?_⟩) hHeld ?_
  rotate_left
  · intro w' hSw; have q0 := hSw.cell hh (by simp); go_simp; try with_reducible rfl
  try simp only [Act.put, List.setIfInBounds_toArray, List.set_cons_zero, List.set_cons_succ]
  refine wpAnyH_take (i := 11) (v := ?_) (List.getElem?_toArray.trans rfl) (by kernel_rfl) (by kernel_rfl) (by kernel_rfl) (fun _ _ _ h => h) (Or.inl ⟨by rfl, ?_⟩) hHeld ?_
  rotate_left
  · intro w' hSw; have q0 := hSw.cell hh (by simp); go_simp; try with_reducible rfl
  try simp only [Act.put, List.setIfInBounds_toArray, List.set_cons_zero, List.set_cons_succ]
  refine wpAnyH_ready (rs := [10]) (by kernel_rfl) (by simp) ?_
  refine AllReadyH.cons (List.getElem?_toArray.trans rfl) (fun K hK => ?_) AllReadyH.nil
  go_simp
  go_at_call 21
  (with_reducible refine (left_any p us _ (HP.out.keep0 hHeld) hn).mono ?_)
  rintro e wN ⟨rfl, gN'⟩
  have gN := gb_eq gN'
  refine hK.out _ _ (gb_trans hHeld gN) (fun hHeld => ?_)
  clear hK K
  try simp only [Act.put, List.setIfInBounds_toArray, List.set_cons_zero, List.set_cons_succ]
  refine wpAnyH_ready (rs := [12]) (by kernel_rfl) (by simp) ?_
  refine AllReadyH.cons (List.getElem?_toArray.trans rfl) (fun K hK => ?_) AllReadyH.nil
  go_simp
  go_at_call 22
  (with_reducible refine (rleft_any rp rq us _ (HR.out.keep0 hHeld) hn).mono ?_)
  rintro e wN ⟨rfl, gN'⟩
  have gN := gb_eq gN'
  refine hK.out _ _ (gb_trans hHeld gN) (fun hHeld => ?_)
  clear hK K
  try simp only [Act.put, List.setIfInBounds_toArray, List.set_cons_zero, List.set_cons_succ]
  refine wpAnyH_take (i := 13) (v := ?_) (List.getElem?_toArray.trans rfl) (by kernel_rfl) (by kernel_rfl) (by kernel_rfl) (fun _ _ _ h => h) (Or.inl ⟨by rfl, ?_⟩) hHeld ?_
  rotate_left
  · intro w' hSw; have q0 := hSw.cell hh (by simp); go_simp; try with_reducible rfl
  try simp only [Act.put, List.setIfInBounds_toArray, List.set_cons_zero, List.set_cons_succ]
  refine wpAnyH_take (i := 14) (v := ?_) (List.getElem?_toArray.trans rfl) (by kernel_rfl) (by kernel_rfl) (by kernel_rfl) (fun _ _ _ h => h) (Or.inl ⟨by rfl, ?_⟩) hHeld ?_
  rotate_left
  · intro w' hSw; have q0 := hSw.cell hh (by simp); go_simp; try with_reducible rfl
  try simp only [Act.put, List.setIfInBounds_toArray, List.set_cons_zero, List.set_cons_succ]
  refine wpAnyH_take (i := 15) (v := ?_) (List.getElem?_toArray.trans rfl) (by kernel_rfl) (by kernel_rfl) (by kernel_rfl) (fun _ _ _ h => h) (Or.inl ⟨by rfl, ?_⟩) hHeld ?_
  rotate_left
  · intro w' hSw; have q0 := hSw.cell hh (by simp); go_simp; try with_reducible rfl
  try simp only [Act.put, List.setIfInBounds_toArray, List.set_cons_zero, List.set_cons_succ]
  refine wpAnyH_take (i := 16) (v := ?_) (List.getElem?_toArray.trans rfl) (by kernel_rfl) (by kernel_rfl) (by kernel_rfl) (fun _ _ _ h => h) (Or.inl ⟨by rfl, ?_⟩) hHeld ?_
  rotate_left
  · intro w' hSw; have q0 := hSw.cell hh (by simp); go_simp; try with_reducible rfl
  try simp only [Act.put, List.setIfInBounds_toArray, List.set_cons_zero, List.set_cons_succ]
  refine wpAnyH_take (i := 18) (v := ?_) (List.getElem?_toArray.trans rfl) (by kernel_rfl) (by kernel_rfl) (by kernel_rfl) (fun _ _ _ h => h) (Or.inl ⟨by rfl, ?_⟩) hHeld ?_
  rotate_left
  · intro w' hSw; have q0 := hSw.cell hh (by simp); go_simp; try with_reducible rfl
  try simp only [Act.put, List.setIfInBounds_toArray, List.set_cons_zero, List.set_cons_succ]
  refine wpAnyH_ready (rs := [17]) (by kernel_rfl) (by simp) ?_
  refine AllReadyH.cons (List.getElem?_toArray.trans rfl) (fun K hK => ?_) AllReadyH.nil
  go_simp
  go_at_call 26
  (with_reducible refine (put_any p us _ (HP.out.keep0 hHeld) hn).mono ?_)
  rintro e wN ⟨rfl, gN⟩
  refine hK.out _ _ (gb_trans hHeld gN) (fun hHeld => ?_)
  clear hK K
  try simp only [Act.put, List.setIfInBounds_toArray, List.set_cons_zero, List.set_cons_succ]
  refine wpAnyH_ready (rs := [19]) (by kernel_rfl) (by simp) ?_
  refine AllReadyH.cons (List.getElem?_toArray.trans rfl) (fun K hK => ?_) AllReadyH.nil
  go_simp
  go_at_call 33
  (with_reducible refine (rput_any rp rq us _ (HR.out.keep0 hHeld) hn).mono ?_)
  rintro e wN ⟨rfl, gN⟩
  refine hK.out _ _ (gb_trans hHeld gN) (fun hHeld => ?_)
  clear hK K
  try simp only [Act.put, List.setIfInBounds_toArray, List.set_cons_zero, List.set_cons_succ]
  refine wpAnyH_take (i := 20) (v := ?_) (List.getElem?_toArray.trans rfl) (by kernel_rfl) (by kernel_rfl) (by kernel_rfl) (fun _ _ _ h => h) (Or.inl ⟨by rfl, ?_⟩) hHeld ?_
  rotate_left
  · intro w' hSw; have q0 := hSw.cell hh (by simp); go_simp; try with_reducible rfl
  try simp only [Act.put, List.setIfInBounds_toArray, List.set_cons_zero, List.set_cons_succ]
  refine wpAnyH_take (i := 21) (v := ?_) (List.getElem?_toArray.trans rfl) (by kernel_rfl) (by kernel_rfl) (by kernel_rfl) (fun _ _ _ h => h) (Or.inl ⟨by rfl, ?_⟩) hHeld ?_
  rotate_left
  · intro w' hSw; have q0 := hSw.cell hh (by simp); go_simp; try with_reducible rfl
  try simp only [Act.put, List.setIfInBounds_toArray, List.set_cons_zero, List.set_cons_succ]
  refine wpAnyH_done (by kernel_rfl) ?_ _
  refine NoPanic.normal ?_
  have HG := Lib.hid hHeld
  clear hHeld hne2 hne3
  go_wp2_with fail
  go_at_call 25
  (with_reducible refine (runs_any p us _ (HP.out.keep0 HG.out) (HT.out.keep0 HG.out) hn).mono ?_)
  rintro e w2 ⟨v1, rfl, hv1, g2⟩
  have G2 := Lib.hid (gb_trans HG.out g2)
  go_wp2_with fail
  go_at_call 34
  (with_reducible refine (rruns_any rp rq us _ (HR.out.keep0 G2.out) hn).mono ?_)
  rintro e w3 ⟨v2, rfl, hv2, g3⟩
  have G3 := Lib.hid (gb_trans G2.out g3)
  replace hv1 : Prs w3 v1 (runsF us) := Sl.keep0 hv1 g3
  have hlen := runsF_len us
  obtain ⟨l, hl⟩ : ∃ l, runsF us = l := ⟨_, rfl⟩
  rw [hl] at hv1 hv2 hlen
  have HV := Lib.hid (And.intro hv1 hv2)
  have HL := Lib.hid hl.symm
  obtain ⟨ao, acap, rfl, _, _, _, -⟩ := hv1
  obtain ⟨bo, bcap, rfl, _, _, _, -⟩ := hv2
  have hnl : ((l.length : Int) != (l.length : Int)) = false := by simp
  clear hl g2 g3
  go_wp2_with fail
  clear hnl
  go_loopw [7] (fun v wr => ∃ k : Nat, k ≤ l.length ∧ v = .int .i64 k ∧ w3.grownBy wr none) (fun v _ => l.length - (intOf v).toNat)
  case atStart => exact ⟨0, by omega, rfl, gb_refl _ _⟩
  case round =>
    obtain ⟨k, hk, rfl, hg⟩ := hrel
    by_cases hlt : k < l.length
    · obtain ⟨x, xc, hx1, _, hx2⟩ := prs_at HV.out.1 (by omega)
      obtain ⟨y, yc, hy1, _, hy2⟩ := prs_at HV.out.2 (by omega)
      injection hx1 with hx1 _ hx3
      injection hy1 with hy1 _ hy3
      subst hx1 hy1
      obtain rfl : acap = xc := hx3
      obtain rfl : bcap = yc := hy3
      have c1 := hg.cell (hx2 k hlt).1 (by simp)
      have c2 := hg.cell (hx2 k hlt).2 (by simp)
      have d1 := hg.cell (hy2 k hlt).1 (by simp)
      have d2 := hg.cell (hy2 k hlt).2 (by simp)
      rw [show x.add (k * 2 + 1) = (x.add (k * 2)).add 1 from (add_add _ _ _).symm] at c2
      rw [show y.add (k * 2 + 1) = (y.add (k * 2)).add 1 from (add_add _ _ _).symm] at d2
      have q1 : ∀ W, (Op.equalIn 10000 53 (.agg #[.int .i64 (l[k].1 : Nat), .int .i64 (l[k].2 : Nat)]) (.agg #[.int .i64 (l[k].1 : Nat), .int .i64 (l[k].2 : Nat)])).run Tryd.prog W = .ok true W := fun W => by rw [equal_pair]; simp
      have qg := pair_guard
      replace c2 : wr.cell? ⟨(x.add (k * 2)).block, (x.add (k * 2)).off + 1, none⟩ = some (.int .i64 (l[k].2 : Nat)) := c2
      replace d2 : wr.cell? ⟨(y.add (k * 2)).block, (y.add (k * 2)).off + 1, none⟩ = some (.int .i64 (l[k].2 : Nat)) := d2
      generalize l[k].1 = a1 at c1 d1 q1
      generalize l[k].2 = a2 at c2 d2 q1
      clear hx2 hy2 hh
      go_wp2
      go_region
      all_goals
        go_wp2
        go_roundw
        case rel => exact ⟨k + 1, by omega, by go_num, gb_trans hg (gb_drew _ _)⟩
        case measure => simp [intOf]; omega
    · have G4 := Lib.hid (gb_trans G3.out hg)
      clear hg hh
      go_wp2_with fail
      go_loopw [8] (fun v wr2 => ∃ z : Int, -1 ≤ z ∧ z ≤ (us.length : Int) + 1 ∧ v = .int .i64 z ∧ w.grownBy wr2 none) (fun v _ => (us.length + 1 - intOf v).toNat)
      case atStart => exact ⟨-1, by omega, by omega, rfl, G4.out⟩
      case round =>
        obtain ⟨z, hz1, hz2, rfl, hg⟩ := hrel
        have hP2 := HP.out.keep0 hg
        have hR2 := HR.out.keep0 hg
        have hh2 := hR2.head
        have HPR := Lib.hid (And.intro hP2 (And.intro hR2 hg))
        clear hP2 hR2 hg
        by_cases hz : z ≤ (us.length : Int)
        · obtain ⟨b, hb⟩ : ∃ b, hasF us z = b := ⟨_, rfl⟩
          have HB := Lib.hid hb
          clear hb
          cases b
          all_goals
            go_wp2_with (first
              | (go_at_call 19; (with_reducible refine (has_any p us z _ HPR.out.1 hn).mono ?_); rintro e w' ⟨he, rfl⟩; rw [HB.out] at he; subst he)
              | (go_at_call 20; (with_reducible refine (rhas_any rp rq us z _ HPR.out.2.1).mono ?_); rintro e w' ⟨he, rfl⟩; rw [HB.out] at he; subst he))
            go_roundw
            case rel => exact ⟨z + 1, by omega, by omega, rfl, HPR.out.2.2⟩
            case measure => simp [intOf]; omega
        · go_wp2
          go_ret
          exact ⟨rfl, HPR.out.2.2⟩
end Go.Proofs.YtaihcbkdbdhihaaDoor
