/-
  TableBack's walk, over this seat's translation; conditions: the changes read as a list, the variable errors.errorType holds its type's handle.
-/
import Derived.Test.YtfkkdhgggocgjaaDoorTbm
namespace Go.Proofs.YtfkkdhgggocgjaaDoor
open Go.RowKit Go.Maps Go.ChangeMaps

set_option linter.unusedSimpArgs false in
set_option maxRecDepth 100000 in
set_option maxHeartbeats 8000000 in
theorem back_walk (v : Value) (l : List PutT) (m : Nat) (w : World) (hd : Hd w) (hm : m < 256) (hA : Pts w v l) :
    Calls Tryd.prog 4 #[v, .int .u8 (m : Nat)] w fun e w' => e = .returned (.bool true) ∧ w.grownBy w' none := by
  obtain ⟨hS, hBd⟩ := hA
  obtain ⟨ao, cap, rfl, _, _, hna, hxa⟩ := hS
  have HX := Lib.hid (And.intro hna (And.intro hxa hBd))
  have h0 := hd.lt
  have HD := Lib.hid hd
  clear hna hxa hBd hd
  have hmm := fun W => @run_makeMap Tryd.prog 52 W
  have hmw : IntKind.i64.wrap (m : Int) = (m : Int) := IntWalk.i64_in _ (by omega)
  go_enter Tryd.func4, Tryd.ntmps4
  go_wp2_with (first
    | (go_at_call 23; (with_reducible refine (works_any _).mono ?_); rintro e w1 ⟨rfl, g1⟩)
    | (go_at_call 6; (with_reducible refine (tnew_any _).mono ?_); rintro e w2 ⟨rfl, P1, g2⟩))
  have hB0 := ba_new P1 g1.size (gb_trans g1 g2) (HD.out.keep0 (gb_trans g1 g2))
  have HB := Lib.hid hB0
  clear hB0 P1 g1 g2
  unfold noTexts at HB
  generalize (w2.alloc (.cells Tryd.zeroCells47 47)).alloc (.cells #[.string ⟨#[]⟩, .string ⟨#[]⟩, .string ⟨#[]⟩, .string ⟨#[]⟩, .string ⟨#[]⟩, .string ⟨#[]⟩, .string ⟨#[]⟩, .string ⟨#[]⟩] 48) = w3 at HB ⊢
  generalize w1.heap.size = p at HB ⊢
  generalize w2.heap.size + 1 = cl at HB ⊢
  generalize w2.heap.size = st at HB ⊢
  go_loopw [8] (fun v8 wr => ∃ (k : Nat) (C : List ByteArray), k ≤ 8 ∧ v8 = .int .i64 k ∧ Ba w p st cl newF newF.P C wr ∧ Hid (∀ j, j < k → C.getD j ⟨#[]⟩ = textB newF.P j)) (fun v8 _ => 8 - (intOf v8).toNat)
  case atStart => exact ⟨0, _, by omega, rfl, HB.out, Lib.hid (fun j h => absurd h (Nat.not_lt_zero j))⟩
  case round =>
    obtain ⟨k, C, hk, rfl, hB, HC⟩ := hrel
    replace HB := Lib.hid hB
    clear hB
    by_cases hk8 : k < 8
    · have hki : (k : Int) < 8 := by omega
      go_wp2_with (go_at_call 24; (with_reducible refine (b_chunk k HB.out).mono ?_); rintro e w5 ⟨rfl, hB, _⟩; have cc := hB.cellC hk8; have fc := hB.freeC k; replace HB := Lib.hid hB; clear hB)
      go_roundw
      case rel => exact ⟨k + 1, _, by omega, by go_num, HB.out.setC h0 k _, Lib.hid (texts_more HB.out.hl hk8 HC.out)⟩
      case measure => simp [intOf]; omega
    · have hki8 : (k : Int) = 8 := by omega
      rw [hki8]
      have hC0 : NoOne newF.P ∧ CI newF C := ⟨noOne_new, HB.out.hl, fun i hi _ => HC.out i (by omega)⟩
      have HI := Lib.hid hC0
      clear hC0 HC hki8 hk8 hk
      go_wp2
      go_loopw [9] (fun v9 wr => ∃ (k : Nat) (s : TB) (C : List ByteArray), k ≤ l.length ∧ v9 = .int .i64 k ∧ Ba w p st cl s s.P C wr ∧ Hid (NoOne s.P ∧ CI s C)) (fun v9 _ => l.length - (intOf v9).toNat)
      case atStart => exact ⟨0, _, _, by omega, rfl, HB.out, HI⟩
      case round =>
        obtain ⟨k, s, C, hk, rfl, hB, HI⟩ := hrel
        replace HB := Lib.hid hB
        clear hB
        by_cases hin : k < l.length ∧ k < 200
        · skip
          obtain ⟨hlt, h200⟩ := hin
          cases ao with
          | none => have := (HX.out.1 rfl).1; omega
          | some x =>
            have c0 := HB.out.g.cell (HX.out.2.1 x rfl _ _ (putsC_at l k hlt 0 (by omega))) (by simp)
            have c1 := HB.out.g.cell (HX.out.2.1 x rfl _ _ (putsC_at l k hlt 1 (by omega))) (by simp)
            have c2 := HB.out.g.cell (HX.out.2.1 x rfl _ _ (putsC_at l k hlt 2 (by omega))) (by simp)
            rw [Nat.add_zero] at c0
            replace c0 : wr.cell? (x.add (k * 3)) = some (.int .u16 (l[k].page : Nat)) := c0
            rw [show x.add (k * 3 + 1) = (x.add (k * 3)).add 1 from (add_add _ _ _).symm] at c1
            replace c1 : wr.cell? ⟨(x.add (k * 3)).block, (x.add (k * 3)).off + 1, none⟩ = some (.int .u16 (l[k].sect : Nat)) := c1
            rw [show x.add (k * 3 + 2) = (x.add (k * 3)).add 2 from (add_add _ _ _).symm] at c2
            replace c2 : wr.cell? ⟨(x.add (k * 3)).block, (x.add (k * 3)).off + 2, none⟩ = some (.bool l[k].gone) := c2
            obtain ⟨hpl, hsl⟩ := HX.out.2.2 l[k] (List.getElem_mem hlt)
            generalize l[k].page = pg at c0 hpl
            generalize l[k].sect = sc at c1 hsl
            generalize l[k].gone = go at c2
            obtain ⟨k0, hk0⟩ : ∃ k0, pg % 960 = k0 := ⟨_, rfl⟩
            obtain ⟨v0, hv0⟩ : ∃ v0, sc % 1022 = v0 := ⟨_, rfl⟩
            have hk9 : k0 < 960 := by omega
            have hv9 : v0 < 1022 := by omega
            have e1 : (pg : Int) % 960 = (k0 : Int) := by omega
            have e2 : (sc : Int) % 1022 = (v0 : Int) := by omega
            have e3 : IntKind.i64.wrap (pg : Int) = (pg : Int) := IntWalk.i64_in _ (by omega)
            have e4 : IntKind.i64.wrap (sc : Int) = (sc : Int) := IntWalk.i64_in _ (by omega)
            have e5 : (1 : Int) + (k0 : Int) = (k0 : Int) + 1 := by omega
            have e6 : (2 : Int) + (v0 : Int) = ((v0 + 2 : Nat) : Int) := by omega
            have e7 : IntKind.i64.wrap ((k0 : Int) + 1) = (k0 : Int) + 1 := IntWalk.i64_in _ (by omega)
            have e8 : IntKind.i64.wrap ((v0 + 2 : Nat) : Int) = ((v0 + 2 : Nat) : Int) := IntWalk.i64_in _ (by omega)
            have E1 : IntKind.i64.wrap (1 + (pg : Int).tmod 960) = (k0 : Int) + 1 := by rw [Int.tmod_eq_emod_of_nonneg (by omega), e1, e5]; exact e7
            have E2 : IntKind.i64.wrap (2 + (sc : Int).tmod 1022) = ((v0 + 2 : Nat) : Int) := by rw [Int.tmod_eq_emod_of_nonneg (by omega), e2, e6]; exact e8
            have HF := Lib.hid HB.out.t.fit
            clear hk0 hv0 hpl hsl e1 e2 e5 e6
            have hki : (k : Int) < (l.length : Int) := by omega
            go_wp2
            rename_i K7 ha7
            have HA := Lib.hid ha7
            clear ha7
            refine wp_region_noPanic ?_
            refine wp_region_held_drew (S := fun w' => w' = wr.drew) (by kernel_rfl) (rfl) (fun hHeld => ?_)
            refine wpAnyH_take (i := 0) (v := ?_) (List.getElem?_toArray.trans rfl) (by kernel_rfl) (by kernel_rfl) (by kernel_rfl) (fun _ _ _ h => h) (Or.inl ⟨by rfl, ?_⟩) hHeld ?_
            rotate_left
            · intro w' hSw; subst hSw; go_simp; try with_reducible rfl
            try simp only [Act.put, List.setIfInBounds_toArray, List.set_cons_zero, List.set_cons_succ]
            refine wpAnyH_take (i := 1) (v := ?_) (List.getElem?_toArray.trans rfl) (by kernel_rfl) (by kernel_rfl) (by kernel_rfl) (fun _ _ _ h => h) (Or.inl ⟨by rfl, ?_⟩) hHeld ?_
            rotate_left
            · intro w' hSw; subst hSw; go_simp; try with_reducible rfl
            try simp only [Act.put, List.setIfInBounds_toArray, List.set_cons_zero, List.set_cons_succ]
            refine wpAnyH_take (i := 2) (v := ?_) (List.getElem?_toArray.trans rfl) (by kernel_rfl) (by kernel_rfl) (by kernel_rfl) (fun _ _ _ h => h) (Or.inl ⟨by rfl, ?_⟩) hHeld ?_
            rotate_left
            · intro w' hSw; subst hSw; go_simp; try with_reducible rfl
            try simp only [Act.put, List.setIfInBounds_toArray, List.set_cons_zero, List.set_cons_succ]
            refine wpAnyH_take (i := 3) (v := ?_) (List.getElem?_toArray.trans rfl) (by kernel_rfl) (by kernel_rfl) (by kernel_rfl) (fun _ _ _ h => h) (Or.inl ⟨by rfl, ?_⟩) hHeld ?_
            rotate_left
            · intro w' hSw; subst hSw; go_simp; try with_reducible rfl
            try simp only [Act.put, List.setIfInBounds_toArray, List.set_cons_zero, List.set_cons_succ]
            refine wpAnyH_take (i := 4) (v := ?_) (List.getElem?_toArray.trans rfl) (by kernel_rfl) (by kernel_rfl) (by kernel_rfl) (fun _ _ _ h => h) (Or.inl ⟨by rfl, ?_⟩) hHeld ?_
            rotate_left
            · intro w' hSw; subst hSw; go_simp; try with_reducible rfl
            try simp only [Act.put, List.setIfInBounds_toArray, List.set_cons_zero, List.set_cons_succ]
            refine wpAnyH_take (i := 5) (v := ?_) (List.getElem?_toArray.trans rfl) (by kernel_rfl) (by kernel_rfl) (by kernel_rfl) (fun _ _ _ h => h) (Or.inl ⟨by rfl, ?_⟩) hHeld ?_
            rotate_left
            · intro w' hSw; subst hSw; go_simp; try with_reducible rfl
            try simp only [Act.put, List.setIfInBounds_toArray, List.set_cons_zero, List.set_cons_succ]
            refine wpAnyH_take (i := 6) (v := ?_) (List.getElem?_toArray.trans rfl) (by kernel_rfl) (by kernel_rfl) (by kernel_rfl) (fun _ _ _ h => h) (Or.inl ⟨by rfl, ?_⟩) hHeld ?_
            rotate_left
            · intro w' hSw; subst hSw; go_simp; try with_reducible rfl
            try simp only [Act.put, List.setIfInBounds_toArray, List.set_cons_zero, List.set_cons_succ]
            refine wpAnyH_take (i := 7) (v := ?_) (List.getElem?_toArray.trans rfl) (by kernel_rfl) (by kernel_rfl) (by kernel_rfl) (fun _ _ _ h => h) (Or.inl ⟨by rfl, ?_⟩) hHeld ?_
            rotate_left
            · intro w' hSw; subst hSw; go_simp; try with_reducible rfl
            try simp only [Act.put, List.setIfInBounds_toArray, List.set_cons_zero, List.set_cons_succ]
            refine wpAnyH_take (i := 8) (v := ?_) (List.getElem?_toArray.trans rfl) (by kernel_rfl) (by kernel_rfl) (by kernel_rfl) (fun _ _ _ h => h) (Or.inl ⟨by rfl, ?_⟩) hHeld ?_
            rotate_left
            · intro w' hSw; subst hSw; go_simp; try with_reducible rfl
            try simp only [Act.put, List.setIfInBounds_toArray, List.set_cons_zero, List.set_cons_succ]
            refine wpAnyH_take (i := 9) (v := ?_) (List.getElem?_toArray.trans rfl) (by kernel_rfl) (by kernel_rfl) (by kernel_rfl) (fun _ _ _ h => h) (Or.inl ⟨by rfl, ?_⟩) hHeld ?_
            rotate_left
            · intro w' hSw; subst hSw; go_simp; try with_reducible rfl
            try simp only [Act.put, List.setIfInBounds_toArray, List.set_cons_zero, List.set_cons_succ]
            refine wpAnyH_take (i := 10) (v := ?_) (List.getElem?_toArray.trans rfl) (by kernel_rfl) (by kernel_rfl) (by kernel_rfl) (fun _ _ _ h => h) (Or.inl ⟨by rfl, ?_⟩) hHeld ?_
            rotate_left
            · intro w' hSw; subst hSw; go_simp; try with_reducible rfl
            try simp only [Act.put, List.setIfInBounds_toArray, List.set_cons_zero, List.set_cons_succ]
            refine wpAnyH_take (i := 11) (v := ?_) (List.getElem?_toArray.trans rfl) (by kernel_rfl) (by kernel_rfl) (by kernel_rfl) (fun _ _ _ h => h) (Or.inl ⟨by rfl, ?_⟩) hHeld ?_
            rotate_left
            · intro w' hSw; subst hSw; go_simp; try with_reducible rfl
            try simp only [Act.put, List.setIfInBounds_toArray, List.set_cons_zero, List.set_cons_succ]
            refine wpAnyH_take (i := 12) (v := ?_) (List.getElem?_toArray.trans rfl) (by kernel_rfl) (by kernel_rfl) (by kernel_rfl) (fun _ _ _ h => h) (Or.inl ⟨by rfl, ?_⟩) hHeld ?_
            rotate_left
            · intro w' hSw; subst hSw; go_simp; try with_reducible rfl
            try simp only [Act.put, List.setIfInBounds_toArray, List.set_cons_zero, List.set_cons_succ]
            refine wpAnyH_take (i := 13) (v := ?_) (List.getElem?_toArray.trans rfl) (by kernel_rfl) (by kernel_rfl) (by kernel_rfl) (fun _ _ _ h => h) (Or.inl ⟨by rfl, ?_⟩) hHeld ?_
            rotate_left
            · intro w' hSw; subst hSw; go_simp; try with_reducible rfl
            try simp only [Act.put, List.setIfInBounds_toArray, List.set_cons_zero, List.set_cons_succ]
            refine wpAnyH_take (i := 14) (v := ?_) (List.getElem?_toArray.trans rfl) (by kernel_rfl) (by kernel_rfl) (by kernel_rfl) (fun _ _ _ h => h) (Or.inl ⟨by rfl, ?_⟩) hHeld ?_
            rotate_left
            · intro w' hSw; subst hSw; go_simp; try with_reducible rfl
            try simp only [Act.put, List.setIfInBounds_toArray, List.set_cons_zero, List.set_cons_succ]
            refine wpAnyH_take (i := 15) (v := ?_) (List.getElem?_toArray.trans rfl) (by kernel_rfl) (by kernel_rfl) (by kernel_rfl) (fun _ _ _ h => h) (Or.inl ⟨by rfl, ?_⟩) hHeld ?_
            rotate_left
            · intro w' hSw; subst hSw; go_simp; try with_reducible rfl
            try simp only [Act.put, List.setIfInBounds_toArray, List.set_cons_zero, List.set_cons_succ]
            refine wpAnyH_take (i := 16) (v := ?_) (List.getElem?_toArray.trans rfl) (by kernel_rfl) (by kernel_rfl) (by kernel_rfl) (fun _ _ _ h => h) (Or.inl ⟨by rfl, ?_⟩) hHeld ?_
            rotate_left
            · intro w' hSw; subst hSw; go_simp; try with_reducible rfl
            try simp only [Act.put, List.setIfInBounds_toArray, List.set_cons_zero, List.set_cons_succ]
            refine wpAnyH_take (i := 17) (v := ?_) (List.getElem?_toArray.trans rfl) (by kernel_rfl) (by kernel_rfl) (by kernel_rfl) (fun _ _ _ h => h) (Or.inl ⟨by rfl, ?_⟩) hHeld ?_
            rotate_left
            · intro w' hSw; subst hSw; go_simp; try with_reducible rfl
            try simp only [Act.put, List.setIfInBounds_toArray, List.set_cons_zero, List.set_cons_succ]
            refine wpAnyH_done (by kernel_rfl) ?_ _
            refine NoPanic.normal ?_
            refine HA.out _ _ ?_
            clear HA K7
            have d2 : wr.drew.cell? ⟨(x.add (k * 3)).block, (x.add (k * 3)).off + 2, none⟩ = some (.bool go) := c2
            replace HB := Lib.hid (HB.out.keep0 (gb_drew wr none))
            generalize wr.drew = W1 at HB d2 ⊢
            clear c0 c1 c2 E1 E2
            have hto : ((k0 : Int) + 1).toNat = k0 + 1 := by omega
            have hb1 : (0 : Int) ≤ (k0 : Int) + 1 := by omega
            have hb2 : (k0 : Int) + 1 < 961 := by omega
            have hps : st ≠ p := Nat.ne_of_gt HB.out.o1
            by_cases hkm : k = m
            · subst hkm
              have hkq : ((k : Int) == (k : Int)) = true := by simp
              cases go with
              | true =>
                obtain ⟨gd, hgd⟩ : ∃ gd, s.P.getD k0 0 = gd := ⟨_, rfl⟩
                have HG := Lib.hid hgd
                clear hgd
                by_cases hg0 : gd = 0
                · skip
                  have hgz : decide ((0 : Int) < (gd : Int)) = false := by simp; omega
                  go_wp2
                  rename_i K7 ha7
                  have HA := Lib.hid ha7
                  clear ha7
                  refine wp_region_noPanic ?_
                  refine wp_region_held_drew (S := fun w' => Blk w' st 47 (intsC (0 :: s.P)).toArray) (by kernel_rfl) (HB.out.a.keep0 (gb_drew _ _)) (fun hHeld => ?_)
                  refine wpAnyH_take (i := 0) (v := ?_) (List.getElem?_toArray.trans rfl) (by kernel_rfl) (by kernel_rfl) (by kernel_rfl) (fun _ _ _ h => h) (Or.inl ⟨by rfl, ?_⟩) hHeld ?_
                  rotate_left
                  · intro w' hSw; go_simp; try with_reducible rfl
                  try simp only [Act.put, List.setIfInBounds_toArray, List.set_cons_zero, List.set_cons_succ]
                  refine wpAnyH_take (i := 1) (v := ?_) (List.getElem?_toArray.trans rfl) (by kernel_rfl) (by kernel_rfl) (by kernel_rfl) (fun _ _ _ h => h) (Or.inl ⟨by rfl, ?_⟩) hHeld ?_
                  rotate_left
                  · intro w' hSw; go_simp; try with_reducible rfl
                  try simp only [Act.put, List.setIfInBounds_toArray, List.set_cons_zero, List.set_cons_succ]
                  refine wpAnyH_take (i := 4) (v := ?_) (List.getElem?_toArray.trans rfl) (by kernel_rfl) (by kernel_rfl) (by kernel_rfl) (fun _ _ _ h => h) (Or.inl ⟨by rfl, ?_⟩) hHeld ?_
                  rotate_left
                  · intro w' hSw; go_simp; try with_reducible rfl
                  try simp only [Act.put, List.setIfInBounds_toArray, List.set_cons_zero, List.set_cons_succ]
                  refine wpAnyH_take (i := 5) (v := ?_) (List.getElem?_toArray.trans rfl) (by kernel_rfl) (by kernel_rfl) (by kernel_rfl) (fun _ _ _ h => h) (Or.inl ⟨by rfl, ?_⟩) hHeld ?_
                  rotate_left
                  · intro w' hSw; go_simp; try with_reducible rfl
                  try simp only [Act.put, List.setIfInBounds_toArray, List.set_cons_zero, List.set_cons_succ]
                  refine wpAnyH_take (i := 6) (v := ?_) (List.getElem?_toArray.trans rfl) (by kernel_rfl) (by kernel_rfl) (by kernel_rfl) (fun _ _ _ h => h) (Or.inl ⟨by rfl, ?_⟩) hHeld ?_
                  rotate_left
                  · intro w' hSw; have cx := stand_cell (show Blk w' st 47 (intsC (0 :: s.P)).toArray from hSw) HB.out.ql hk9; rw [HG.out] at cx; go_simp; try with_reducible rfl
                  try simp only [Act.put, List.setIfInBounds_toArray, List.set_cons_zero, List.set_cons_succ]
                  refine wpAnyH_take (i := 7) (v := ?_) (List.getElem?_toArray.trans rfl) (by kernel_rfl) (by kernel_rfl) (by kernel_rfl) (fun _ _ _ h => h) (Or.inl ⟨by rfl, ?_⟩) hHeld ?_
                  rotate_left
                  · intro w' hSw; go_simp; try with_reducible rfl
                  try simp only [Act.put, List.setIfInBounds_toArray, List.set_cons_zero, List.set_cons_succ]
                  refine wpAnyH_ready (rs := [2]) (by kernel_rfl) (by simp) ?_
                  refine AllReadyH.cons (List.getElem?_toArray.trans rfl) (fun K hK => ?_) AllReadyH.nil
                  go_simp
                  go_at_call 10
                  (with_reducible refine (b_drop k0 hk9 13 (by rw [HG.out, if_pos hg0]) h0 (HB.out.keep0 (gb_drew _ _))).mono ?_)
                  rintro e w7 ⟨rfl, hB, g7⟩
                  refine hK.out _ _ (Blk.keep hHeld g7 (ne_some hps)) (fun hHeld => ?_)
                  clear hK K
                  replace HB := Lib.hid hB
                  clear hB g7
                  try simp only [Act.put, List.setIfInBounds_toArray, List.set_cons_zero, List.set_cons_succ]
                  refine wpAnyH_take (i := 3) (v := ?_) (List.getElem?_toArray.trans rfl) (by kernel_rfl) (by kernel_rfl) (by kernel_rfl) (fun _ _ _ h => h) (Or.inl ⟨by rfl, ?_⟩) hHeld ?_
                  rotate_left
                  · intro w' hSw; go_simp; try with_reducible rfl
                  try simp only [Act.put, List.setIfInBounds_toArray, List.set_cons_zero, List.set_cons_succ]
                  refine wpAnyH_take (i := 8) (v := ?_) (List.getElem?_toArray.trans rfl) (by kernel_rfl) (by kernel_rfl) (by kernel_rfl) (fun _ _ _ h => h) (Or.inl ⟨by rfl, ?_⟩) hHeld ?_
                  rotate_left
                  · intro w' hSw; go_simp; try with_reducible rfl
                  try simp only [Act.put, List.setIfInBounds_toArray, List.set_cons_zero, List.set_cons_succ]
                  refine wpAnyH_done (by kernel_rfl) ?_ _
                  refine NoPanic.normal ?_
                  refine HA.out _ _ ?_
                  clear HA K7
                  have cc := HB.out.cellA hk9
                  have fc := HB.out.freeA (k0 + 1)
                  have HB2 := Lib.hid (HB.out.setAP0 h0)
                  have HI2 := Lib.hid (hi_put HI.out HF.out hk9 (show (0 : Nat) ≠ 1 by omega))
                  generalize putF s k0 0 = s2 at HB2 HI2
                  clear HB HI HF HG
                  go_wp2_with (go_at_call 16; (with_reducible refine (b_clean h0 HB2.out).mono ?_); rintro e w8 ⟨rfl, hB⟩; have HB3 := Lib.hid hB; clear hB)
                  go_loopw [12] (fun v12 wr => ∃ (j : Nat) (C2 : List ByteArray), j ≤ 8 ∧ v12 = .int .i64 j ∧ Ba w p st cl (cleanF s2) s2.P C2 wr ∧ Hid (∀ i, i < j → C2.getD i ⟨#[]⟩ = textB s2.P i)) (fun v12 _ => 8 - (intOf v12).toNat)
                  case atStart => exact ⟨0, _, by omega, rfl, HB3.out, Lib.hid (fun j h => absurd h (Nat.not_lt_zero j))⟩
                  case round =>
                    obtain ⟨j, C2, hj, rfl, hB, HC⟩ := hrel
                    have HB := Lib.hid hB
                    clear hB HB3
                    by_cases hk8 : j < 8
                    · have hki2 : (j : Int) < 8 := by omega
                      go_wp2_with (go_at_call 24; (with_reducible refine (b_chunk j HB.out).mono ?_); rintro e w5 ⟨rfl, hB, _⟩; have cc := hB.cellC hk8; have fc := hB.freeC j; replace HB := Lib.hid hB; clear hB)
                      go_roundw
                      case rel => exact ⟨j + 1, _, by omega, by go_num, HB.out.setC h0 j _, Lib.hid (texts_more HB.out.hl hk8 HC.out)⟩
                      case measure => simp [intOf]; omega
                    · have hji8 : (j : Int) = 8 := by omega
                      rw [hji8]
                      have HI3 : NoOne (cleanF s2).P ∧ CI (cleanF s2) C2 := ⟨HI2.out.1, HB.out.hl, fun i hi _ => HC.out i (by omega)⟩
                      replace HI3 := Lib.hid HI3
                      go_wp2
                      go_roundw
                      case rel => exact ⟨k + 1, cleanF s2, C2, by omega, by go_num, HB.out, HI3⟩
                      case measure => simp [intOf]; omega
                · skip
                  have hgp : 0 < gd := Nat.pos_of_ne_zero hg0
                  have hgq : (0 : Int) < (gd : Int) := by omega
                  go_wp2
                  rename_i K7 ha7
                  have HA := Lib.hid ha7
                  clear ha7
                  refine wp_region_noPanic ?_
                  refine wp_region_held_drew (S := fun w' => Blk w' st 47 (intsC (0 :: s.P)).toArray) (by kernel_rfl) (HB.out.a.keep0 (gb_drew _ _)) (fun hHeld => ?_)
                  refine wpAnyH_take (i := 0) (v := ?_) (List.getElem?_toArray.trans rfl) (by kernel_rfl) (by kernel_rfl) (by kernel_rfl) (fun _ _ _ h => h) (Or.inl ⟨by rfl, ?_⟩) hHeld ?_
                  rotate_left
                  · intro w' hSw; go_simp; try with_reducible rfl
                  try simp only [Act.put, List.setIfInBounds_toArray, List.set_cons_zero, List.set_cons_succ]
                  refine wpAnyH_take (i := 1) (v := ?_) (List.getElem?_toArray.trans rfl) (by kernel_rfl) (by kernel_rfl) (by kernel_rfl) (fun _ _ _ h => h) (Or.inl ⟨by rfl, ?_⟩) hHeld ?_
                  rotate_left
                  · intro w' hSw; go_simp; try with_reducible rfl
                  try simp only [Act.put, List.setIfInBounds_toArray, List.set_cons_zero, List.set_cons_succ]
                  refine wpAnyH_take (i := 4) (v := ?_) (List.getElem?_toArray.trans rfl) (by kernel_rfl) (by kernel_rfl) (by kernel_rfl) (fun _ _ _ h => h) (Or.inl ⟨by rfl, ?_⟩) hHeld ?_
                  rotate_left
                  · intro w' hSw; go_simp; try with_reducible rfl
                  try simp only [Act.put, List.setIfInBounds_toArray, List.set_cons_zero, List.set_cons_succ]
                  refine wpAnyH_take (i := 5) (v := ?_) (List.getElem?_toArray.trans rfl) (by kernel_rfl) (by kernel_rfl) (by kernel_rfl) (fun _ _ _ h => h) (Or.inl ⟨by rfl, ?_⟩) hHeld ?_
                  rotate_left
                  · intro w' hSw; go_simp; try with_reducible rfl
                  try simp only [Act.put, List.setIfInBounds_toArray, List.set_cons_zero, List.set_cons_succ]
                  refine wpAnyH_take (i := 6) (v := ?_) (List.getElem?_toArray.trans rfl) (by kernel_rfl) (by kernel_rfl) (by kernel_rfl) (fun _ _ _ h => h) (Or.inl ⟨by rfl, ?_⟩) hHeld ?_
                  rotate_left
                  · intro w' hSw; have cx := stand_cell (show Blk w' st 47 (intsC (0 :: s.P)).toArray from hSw) HB.out.ql hk9; rw [HG.out] at cx; go_simp; try with_reducible rfl
                  try simp only [Act.put, List.setIfInBounds_toArray, List.set_cons_zero, List.set_cons_succ]
                  refine wpAnyH_take (i := 7) (v := ?_) (List.getElem?_toArray.trans rfl) (by kernel_rfl) (by kernel_rfl) (by kernel_rfl) (fun _ _ _ h => h) (Or.inl ⟨by rfl, ?_⟩) hHeld ?_
                  rotate_left
                  · intro w' hSw; go_simp; try with_reducible rfl
                  try simp only [Act.put, List.setIfInBounds_toArray, List.set_cons_zero, List.set_cons_succ]
                  refine wpAnyH_ready (rs := [2]) (by kernel_rfl) (by simp) ?_
                  refine AllReadyH.cons (List.getElem?_toArray.trans rfl) (fun K hK => ?_) AllReadyH.nil
                  go_simp
                  go_at_call 10
                  (with_reducible refine (b_drop k0 hk9 0 (by rw [HG.out, if_neg hg0]) h0 (HB.out.keep0 (gb_drew _ _))).mono ?_)
                  rintro e w7 ⟨rfl, hB, g7⟩
                  refine hK.out _ _ (Blk.keep hHeld g7 (ne_some hps)) (fun hHeld => ?_)
                  clear hK K
                  replace HB := Lib.hid hB
                  clear hB g7
                  try simp only [Act.put, List.setIfInBounds_toArray, List.set_cons_zero, List.set_cons_succ]
                  refine wpAnyH_take (i := 3) (v := ?_) (List.getElem?_toArray.trans rfl) (by kernel_rfl) (by kernel_rfl) (by kernel_rfl) (fun _ _ _ h => h) (Or.inl ⟨by rfl, ?_⟩) hHeld ?_
                  rotate_left
                  · intro w' hSw; go_simp; try with_reducible rfl
                  try simp only [Act.put, List.setIfInBounds_toArray, List.set_cons_zero, List.set_cons_succ]
                  refine wpAnyH_take (i := 8) (v := ?_) (List.getElem?_toArray.trans rfl) (by kernel_rfl) (by kernel_rfl) (by kernel_rfl) (fun _ _ _ h => h) (Or.inl ⟨by rfl, ?_⟩) hHeld ?_
                  rotate_left
                  · intro w' hSw; go_simp; try with_reducible rfl
                  try simp only [Act.put, List.setIfInBounds_toArray, List.set_cons_zero, List.set_cons_succ]
                  refine wpAnyH_done (by kernel_rfl) ?_ _
                  refine NoPanic.normal ?_
                  refine HA.out _ _ ?_
                  clear HA K7
                  have cc := HB.out.cellA hk9
                  have fc := HB.out.freeA (k0 + 1)
                  have HB2 := Lib.hid (HB.out.setAP0 h0)
                  have HI2 := Lib.hid (hi_put HI.out HF.out hk9 (show (0 : Nat) ≠ 1 by omega))
                  generalize putF s k0 0 = s2 at HB2 HI2
                  clear HB HI HF HG
                  go_wp2_with (go_at_call 16; (with_reducible refine (b_clean h0 HB2.out).mono ?_); rintro e w8 ⟨rfl, hB⟩; have HB3 := Lib.hid hB; clear hB)
                  go_loopw [12] (fun v12 wr => ∃ (j : Nat) (C2 : List ByteArray), j ≤ 8 ∧ v12 = .int .i64 j ∧ Ba w p st cl (cleanF s2) s2.P C2 wr ∧ Hid (∀ i, i < j → C2.getD i ⟨#[]⟩ = textB s2.P i)) (fun v12 _ => 8 - (intOf v12).toNat)
                  case atStart => exact ⟨0, _, by omega, rfl, HB3.out, Lib.hid (fun j h => absurd h (Nat.not_lt_zero j))⟩
                  case round =>
                    obtain ⟨j, C2, hj, rfl, hB, HC⟩ := hrel
                    have HB := Lib.hid hB
                    clear hB HB3
                    by_cases hk8 : j < 8
                    · have hki2 : (j : Int) < 8 := by omega
                      go_wp2_with (go_at_call 24; (with_reducible refine (b_chunk j HB.out).mono ?_); rintro e w5 ⟨rfl, hB, _⟩; have cc := hB.cellC hk8; have fc := hB.freeC j; replace HB := Lib.hid hB; clear hB)
                      go_roundw
                      case rel => exact ⟨j + 1, _, by omega, by go_num, HB.out.setC h0 j _, Lib.hid (texts_more HB.out.hl hk8 HC.out)⟩
                      case measure => simp [intOf]; omega
                    · have hji8 : (j : Int) = 8 := by omega
                      rw [hji8]
                      have HI3 : NoOne (cleanF s2).P ∧ CI (cleanF s2) C2 := ⟨HI2.out.1, HB.out.hl, fun i hi _ => HC.out i (by omega)⟩
                      replace HI3 := Lib.hid HI3
                      go_wp2
                      go_roundw
                      case rel => exact ⟨k + 1, cleanF s2, C2, by omega, by go_num, HB.out, HI3⟩
                      case measure => simp [intOf]; omega
              | false =>
                go_wp2_with (first
                  | (go_at_call 8; (with_reducible refine (b_setT k0 v0 hk9 (by omega) h0 HB.out).mono ?_); rintro e w7 ⟨rfl, hB⟩; have cc := hB.cellA hk9; have fc := hB.freeA (k0 + 1); have HB2 := Lib.hid (hB.setAP2 h0); have HI2 := Lib.hid (hi_put HI.out HF.out hk9 (show v0 + 2 ≠ 1 by omega)); generalize putF s k0 (v0 + 2) = s2 at HB2 HI2; clear hB HB HI HF)
                  | (go_at_call 16; (with_reducible refine (b_clean h0 HB2.out).mono ?_); rintro e w8 ⟨rfl, hB⟩; have HB3 := Lib.hid hB; clear hB))
                go_loopw [12] (fun v12 wr => ∃ (j : Nat) (C2 : List ByteArray), j ≤ 8 ∧ v12 = .int .i64 j ∧ Ba w p st cl (cleanF s2) s2.P C2 wr ∧ Hid (∀ i, i < j → C2.getD i ⟨#[]⟩ = textB s2.P i)) (fun v12 _ => 8 - (intOf v12).toNat)
                case atStart => exact ⟨0, _, by omega, rfl, HB3.out, Lib.hid (fun j h => absurd h (Nat.not_lt_zero j))⟩
                case round =>
                  obtain ⟨j, C2, hj, rfl, hB, HC⟩ := hrel
                  have HB := Lib.hid hB
                  clear hB HB3
                  by_cases hk8 : j < 8
                  · have hki2 : (j : Int) < 8 := by omega
                    go_wp2_with (go_at_call 24; (with_reducible refine (b_chunk j HB.out).mono ?_); rintro e w5 ⟨rfl, hB, _⟩; have cc := hB.cellC hk8; have fc := hB.freeC j; replace HB := Lib.hid hB; clear hB)
                    go_roundw
                    case rel => exact ⟨j + 1, _, by omega, by go_num, HB.out.setC h0 j _, Lib.hid (texts_more HB.out.hl hk8 HC.out)⟩
                    case measure => simp [intOf]; omega
                  · have hji8 : (j : Int) = 8 := by omega
                    rw [hji8]
                    have HI3 : NoOne (cleanF s2).P ∧ CI (cleanF s2) C2 := ⟨HI2.out.1, HB.out.hl, fun i hi _ => HC.out i (by omega)⟩
                    replace HI3 := Lib.hid HI3
                    go_wp2
                    go_roundw
                    case rel => exact ⟨k + 1, cleanF s2, C2, by omega, by go_num, HB.out, HI3⟩
                    case measure => simp [intOf]; omega
            · have hkq : ((k : Int) == (m : Int)) = false := by simp; omega
              cases go with
              | true =>
                obtain ⟨gd, hgd⟩ : ∃ gd, s.P.getD k0 0 = gd := ⟨_, rfl⟩
                have HG := Lib.hid hgd
                clear hgd
                by_cases hg0 : gd = 0
                · skip
                  have hgz : decide ((0 : Int) < (gd : Int)) = false := by simp; omega
                  go_wp2
                  rename_i K7 ha7
                  have HA := Lib.hid ha7
                  clear ha7
                  refine wp_region_noPanic ?_
                  refine wp_region_held_drew (S := fun w' => Blk w' st 47 (intsC (0 :: s.P)).toArray) (by kernel_rfl) (HB.out.a.keep0 (gb_drew _ _)) (fun hHeld => ?_)
                  refine wpAnyH_take (i := 0) (v := ?_) (List.getElem?_toArray.trans rfl) (by kernel_rfl) (by kernel_rfl) (by kernel_rfl) (fun _ _ _ h => h) (Or.inl ⟨by rfl, ?_⟩) hHeld ?_
                  rotate_left
                  · intro w' hSw; go_simp; try with_reducible rfl
                  try simp only [Act.put, List.setIfInBounds_toArray, List.set_cons_zero, List.set_cons_succ]
                  refine wpAnyH_take (i := 1) (v := ?_) (List.getElem?_toArray.trans rfl) (by kernel_rfl) (by kernel_rfl) (by kernel_rfl) (fun _ _ _ h => h) (Or.inl ⟨by rfl, ?_⟩) hHeld ?_
                  rotate_left
                  · intro w' hSw; go_simp; try with_reducible rfl
                  try simp only [Act.put, List.setIfInBounds_toArray, List.set_cons_zero, List.set_cons_succ]
                  refine wpAnyH_take (i := 4) (v := ?_) (List.getElem?_toArray.trans rfl) (by kernel_rfl) (by kernel_rfl) (by kernel_rfl) (fun _ _ _ h => h) (Or.inl ⟨by rfl, ?_⟩) hHeld ?_
                  rotate_left
                  · intro w' hSw; go_simp; try with_reducible rfl
                  try simp only [Act.put, List.setIfInBounds_toArray, List.set_cons_zero, List.set_cons_succ]
                  refine wpAnyH_take (i := 5) (v := ?_) (List.getElem?_toArray.trans rfl) (by kernel_rfl) (by kernel_rfl) (by kernel_rfl) (fun _ _ _ h => h) (Or.inl ⟨by rfl, ?_⟩) hHeld ?_
                  rotate_left
                  · intro w' hSw; go_simp; try with_reducible rfl
                  try simp only [Act.put, List.setIfInBounds_toArray, List.set_cons_zero, List.set_cons_succ]
                  refine wpAnyH_take (i := 6) (v := ?_) (List.getElem?_toArray.trans rfl) (by kernel_rfl) (by kernel_rfl) (by kernel_rfl) (fun _ _ _ h => h) (Or.inl ⟨by rfl, ?_⟩) hHeld ?_
                  rotate_left
                  · intro w' hSw; have cx := stand_cell (show Blk w' st 47 (intsC (0 :: s.P)).toArray from hSw) HB.out.ql hk9; rw [HG.out] at cx; go_simp; try with_reducible rfl
                  try simp only [Act.put, List.setIfInBounds_toArray, List.set_cons_zero, List.set_cons_succ]
                  refine wpAnyH_take (i := 7) (v := ?_) (List.getElem?_toArray.trans rfl) (by kernel_rfl) (by kernel_rfl) (by kernel_rfl) (fun _ _ _ h => h) (Or.inl ⟨by rfl, ?_⟩) hHeld ?_
                  rotate_left
                  · intro w' hSw; go_simp; try with_reducible rfl
                  try simp only [Act.put, List.setIfInBounds_toArray, List.set_cons_zero, List.set_cons_succ]
                  refine wpAnyH_ready (rs := [2]) (by kernel_rfl) (by simp) ?_
                  refine AllReadyH.cons (List.getElem?_toArray.trans rfl) (fun K hK => ?_) AllReadyH.nil
                  go_simp
                  go_at_call 10
                  (with_reducible refine (b_drop k0 hk9 13 (by rw [HG.out, if_pos hg0]) h0 (HB.out.keep0 (gb_drew _ _))).mono ?_)
                  rintro e w7 ⟨rfl, hB, g7⟩
                  refine hK.out _ _ (Blk.keep hHeld g7 (ne_some hps)) (fun hHeld => ?_)
                  clear hK K
                  replace HB := Lib.hid hB
                  clear hB g7
                  try simp only [Act.put, List.setIfInBounds_toArray, List.set_cons_zero, List.set_cons_succ]
                  refine wpAnyH_take (i := 3) (v := ?_) (List.getElem?_toArray.trans rfl) (by kernel_rfl) (by kernel_rfl) (by kernel_rfl) (fun _ _ _ h => h) (Or.inl ⟨by rfl, ?_⟩) hHeld ?_
                  rotate_left
                  · intro w' hSw; go_simp; try with_reducible rfl
                  try simp only [Act.put, List.setIfInBounds_toArray, List.set_cons_zero, List.set_cons_succ]
                  refine wpAnyH_take (i := 8) (v := ?_) (List.getElem?_toArray.trans rfl) (by kernel_rfl) (by kernel_rfl) (by kernel_rfl) (fun _ _ _ h => h) (Or.inl ⟨by rfl, ?_⟩) hHeld ?_
                  rotate_left
                  · intro w' hSw; go_simp; try with_reducible rfl
                  try simp only [Act.put, List.setIfInBounds_toArray, List.set_cons_zero, List.set_cons_succ]
                  refine wpAnyH_done (by kernel_rfl) ?_ _
                  refine NoPanic.normal ?_
                  refine HA.out _ _ ?_
                  clear HA K7
                  have cc := HB.out.cellA hk9
                  have fc := HB.out.freeA (k0 + 1)
                  have HB2 := Lib.hid (HB.out.setAP0 h0)
                  have HI2 := Lib.hid (hi_put HI.out HF.out hk9 (show (0 : Nat) ≠ 1 by omega))
                  generalize putF s k0 0 = s2 at HB2 HI2
                  clear HB HI HF HG
                  go_wp2
                  go_roundw
                  case rel => exact ⟨k + 1, s2, C, by omega, by go_num, HB2.out, HI2⟩
                  case measure => simp [intOf]; omega
                · skip
                  have hgp : 0 < gd := Nat.pos_of_ne_zero hg0
                  have hgq : (0 : Int) < (gd : Int) := by omega
                  go_wp2
                  rename_i K7 ha7
                  have HA := Lib.hid ha7
                  clear ha7
                  refine wp_region_noPanic ?_
                  refine wp_region_held_drew (S := fun w' => Blk w' st 47 (intsC (0 :: s.P)).toArray) (by kernel_rfl) (HB.out.a.keep0 (gb_drew _ _)) (fun hHeld => ?_)
                  refine wpAnyH_take (i := 0) (v := ?_) (List.getElem?_toArray.trans rfl) (by kernel_rfl) (by kernel_rfl) (by kernel_rfl) (fun _ _ _ h => h) (Or.inl ⟨by rfl, ?_⟩) hHeld ?_
                  rotate_left
                  · intro w' hSw; go_simp; try with_reducible rfl
                  try simp only [Act.put, List.setIfInBounds_toArray, List.set_cons_zero, List.set_cons_succ]
                  refine wpAnyH_take (i := 1) (v := ?_) (List.getElem?_toArray.trans rfl) (by kernel_rfl) (by kernel_rfl) (by kernel_rfl) (fun _ _ _ h => h) (Or.inl ⟨by rfl, ?_⟩) hHeld ?_
                  rotate_left
                  · intro w' hSw; go_simp; try with_reducible rfl
                  try simp only [Act.put, List.setIfInBounds_toArray, List.set_cons_zero, List.set_cons_succ]
                  refine wpAnyH_take (i := 4) (v := ?_) (List.getElem?_toArray.trans rfl) (by kernel_rfl) (by kernel_rfl) (by kernel_rfl) (fun _ _ _ h => h) (Or.inl ⟨by rfl, ?_⟩) hHeld ?_
                  rotate_left
                  · intro w' hSw; go_simp; try with_reducible rfl
                  try simp only [Act.put, List.setIfInBounds_toArray, List.set_cons_zero, List.set_cons_succ]
                  refine wpAnyH_take (i := 5) (v := ?_) (List.getElem?_toArray.trans rfl) (by kernel_rfl) (by kernel_rfl) (by kernel_rfl) (fun _ _ _ h => h) (Or.inl ⟨by rfl, ?_⟩) hHeld ?_
                  rotate_left
                  · intro w' hSw; go_simp; try with_reducible rfl
                  try simp only [Act.put, List.setIfInBounds_toArray, List.set_cons_zero, List.set_cons_succ]
                  refine wpAnyH_take (i := 6) (v := ?_) (List.getElem?_toArray.trans rfl) (by kernel_rfl) (by kernel_rfl) (by kernel_rfl) (fun _ _ _ h => h) (Or.inl ⟨by rfl, ?_⟩) hHeld ?_
                  rotate_left
                  · intro w' hSw; have cx := stand_cell (show Blk w' st 47 (intsC (0 :: s.P)).toArray from hSw) HB.out.ql hk9; rw [HG.out] at cx; go_simp; try with_reducible rfl
                  try simp only [Act.put, List.setIfInBounds_toArray, List.set_cons_zero, List.set_cons_succ]
                  refine wpAnyH_take (i := 7) (v := ?_) (List.getElem?_toArray.trans rfl) (by kernel_rfl) (by kernel_rfl) (by kernel_rfl) (fun _ _ _ h => h) (Or.inl ⟨by rfl, ?_⟩) hHeld ?_
                  rotate_left
                  · intro w' hSw; go_simp; try with_reducible rfl
                  try simp only [Act.put, List.setIfInBounds_toArray, List.set_cons_zero, List.set_cons_succ]
                  refine wpAnyH_ready (rs := [2]) (by kernel_rfl) (by simp) ?_
                  refine AllReadyH.cons (List.getElem?_toArray.trans rfl) (fun K hK => ?_) AllReadyH.nil
                  go_simp
                  go_at_call 10
                  (with_reducible refine (b_drop k0 hk9 0 (by rw [HG.out, if_neg hg0]) h0 (HB.out.keep0 (gb_drew _ _))).mono ?_)
                  rintro e w7 ⟨rfl, hB, g7⟩
                  refine hK.out _ _ (Blk.keep hHeld g7 (ne_some hps)) (fun hHeld => ?_)
                  clear hK K
                  replace HB := Lib.hid hB
                  clear hB g7
                  try simp only [Act.put, List.setIfInBounds_toArray, List.set_cons_zero, List.set_cons_succ]
                  refine wpAnyH_take (i := 3) (v := ?_) (List.getElem?_toArray.trans rfl) (by kernel_rfl) (by kernel_rfl) (by kernel_rfl) (fun _ _ _ h => h) (Or.inl ⟨by rfl, ?_⟩) hHeld ?_
                  rotate_left
                  · intro w' hSw; go_simp; try with_reducible rfl
                  try simp only [Act.put, List.setIfInBounds_toArray, List.set_cons_zero, List.set_cons_succ]
                  refine wpAnyH_take (i := 8) (v := ?_) (List.getElem?_toArray.trans rfl) (by kernel_rfl) (by kernel_rfl) (by kernel_rfl) (fun _ _ _ h => h) (Or.inl ⟨by rfl, ?_⟩) hHeld ?_
                  rotate_left
                  · intro w' hSw; go_simp; try with_reducible rfl
                  try simp only [Act.put, List.setIfInBounds_toArray, List.set_cons_zero, List.set_cons_succ]
                  refine wpAnyH_done (by kernel_rfl) ?_ _
                  refine NoPanic.normal ?_
                  refine HA.out _ _ ?_
                  clear HA K7
                  have cc := HB.out.cellA hk9
                  have fc := HB.out.freeA (k0 + 1)
                  have HB2 := Lib.hid (HB.out.setAP0 h0)
                  have HI2 := Lib.hid (hi_put HI.out HF.out hk9 (show (0 : Nat) ≠ 1 by omega))
                  generalize putF s k0 0 = s2 at HB2 HI2
                  clear HB HI HF HG
                  go_wp2
                  go_roundw
                  case rel => exact ⟨k + 1, s2, C, by omega, by go_num, HB2.out, HI2⟩
                  case measure => simp [intOf]; omega
              | false =>
                go_wp2_with (go_at_call 8; (with_reducible refine (b_setT k0 v0 hk9 (by omega) h0 HB.out).mono ?_); rintro e w7 ⟨rfl, hB⟩; have cc := hB.cellA hk9; have fc := hB.freeA (k0 + 1); have HB2 := Lib.hid (hB.setAP2 h0); have HI2 := Lib.hid (hi_put HI.out HF.out hk9 (show v0 + 2 ≠ 1 by omega)); generalize putF s k0 (v0 + 2) = s2 at HB2 HI2; clear hB HB HI HF)
                go_roundw
                case rel => exact ⟨k + 1, s2, C, by omega, by go_num, HB2.out, HI2⟩
                case measure => simp [intOf]; omega
        · skip
          by_cases hk1 : k < l.length
          · have hk2 : ¬ k < 200 := fun h => hin ⟨hk1, h⟩
            have hk3 : (200 : Int) ≤ (k : Int) := by omega
            clear hin
            go_wp2_with (go_at_call 25; (with_reducible refine (dirty_any p s _ (HB.out.keep0 (gb_alloc wr (.map #[] 0) none)).t).mono ?_); rintro e w5 ⟨v5, rfl, o5, g5⟩; obtain ⟨ao5, cp5, rfl⟩ := nts_shape (Sl_owns o5))
            have hMp := MapN.mk wr
            have hcm : cl < wr.heap.size := HB.out.c.lt
            have hFr : Far wr.heap.size w5 (.slice ao5 (dirtyF s.D).length cp5) (dirtyF s.D) := owns_mono o5 (by rw [World.size_alloc]; omega)
            have hB5 := HB.out.keep0 (gb_trans (gb_alloc wr (.map #[] 0) none) g5)
            replace hMp := hMp.keep0 g5
            have HB5 := Lib.hid (And.intro hB5 (And.intro hMp hFr))
            clear hB5 hMp hFr o5 g5 HB hmm
            generalize wr.heap.size = mb at HB5 hcm ⊢
            obtain ⟨dl, hdl⟩ : ∃ dl, dirtyF s.D = dl := ⟨_, rfl⟩
            have HDL := Lib.hid hdl
            rw [hdl] at HB5 ⊢
            obtain ⟨N, hN⟩ : ∃ N, dl.length = N := ⟨_, rfl⟩
            have HN := Lib.hid hN
            have hN8 : N ≤ 8 := by rw [← hN, ← hdl]; exact dirtyTo_length s.D 8
            rw [hN] at HB5 ⊢
            clear hdl hN
            go_loopw [103] (fun v103 wr => ∃ (j n : Nat) (D : DataW Unit), j ≤ N ∧ n ≤ j ∧ v103 = .int .i64 j ∧ MapN wr mb n D ∧ Hid (Seen D (dl.take j)) ∧ Hid (Ba w p st cl s s.P C wr ∧ Far mb wr (.slice ao5 N cp5) dl)) (fun v103 _ => N - (intOf v103).toNat)
            case atStart => exact ⟨0, 0, _, by omega, by omega, rfl, HB5.out.2.1, Lib.hid seen_nil, Lib.hid ⟨HB5.out.1, HB5.out.2.2⟩⟩
            case round =>
              obtain ⟨j, n, D, hj, hn, rfl, hM, HS, HP⟩ := hrel
              clear HB5
              have HM := Lib.hid hM
              by_cases hjn : j < N
              · have hji : (j : Int) < (N : Int) := by omega
                obtain ⟨d, hdd⟩ : ∃ d, dl.getD j 0 = d := ⟨_, rfl⟩
                have HDD := Lib.hid hdd
                obtain ⟨ax, hax, cj⟩ := nts_cell (HP.out.2.nts) (by rw [HN.out]; exact hjn)
                rw [hdd] at cj
                clear hdd
                subst hax
                have hd8 : d < 8 := by rw [← HDD.out]; exact dirty_lt HDL.out (by rw [HN.out]; exact hjn)
                obtain ⟨w6, hup, hM6, g6⟩ := put_int hM (by omega) (d : Nat) (by omega) 1 (by omega)
                go_wp2
                go_roundw
                case rel => exact ⟨j + 1, n + 1, _, by omega, by omega, by go_num, hM6, Lib.hid (take_snoc' HN.out hjn HDD.out ▸ seen_put HS.out (World.ownsMap.isMap HM.out) d), Lib.hid ⟨HP.out.1.keep h0 g6 hcm, HP.out.2.keepP g6⟩⟩
                case measure => simp [intOf]; omega
              · have hjN : j = N := by omega
                have hSD : Seen D (dirtyF s.D) := by rw [HDL.out]; have := HS.out; rw [List.take_of_length_le (by rw [HN.out]; omega)] at this; exact this
                have HSD := Lib.hid hSD
                clear hSD HS
                go_wp2_with (first
                  | (go_at_call 18; (with_reducible refine (copy_any p s _ HP.out.1.t).mono ?_); rintro e w7 ⟨rfl, P7, g7⟩)
                  | (go_at_call 6; (with_reducible refine (tnew_any _).mono ?_); rintro e w8 ⟨rfl, P8, g8⟩))
                have HE := Lib.hid (e_start HP.out.1 HM.out hcm P7 g7 P8 g8)
                clear P7 g7 P8 g8 hM HM HP
                generalize wr.heap.size = o at HE ⊢
                generalize w7.heap.size = u at HE ⊢
                go_loopw [18] (fun v18 wr => ∃ i : Nat, i ≤ 8 ∧ v18 = .int .i64 i ∧ Hid (Bb w p st cl mb o u s s (uF s.P i) C n D wr)) (fun v18 _ => 8 - (intOf v18).toNat)
                case atStart => exact ⟨0, by omega, rfl, HE⟩
                case round =>
                  obtain ⟨i, hi, rfl, HF⟩ := hrel
                  clear HE
                  have HE := HF
                  clear HF
                  by_cases hi8 : i < 8
                  · have hii : (i : Int) < 8 := by omega
                    have hat := seen_dirty HSD.out i hi8
                    have hct := HI.out.2.2 i hi8
                    have HCh := Lib.hid (fun (W : World) (su : TB) (h : Bb w p st cl mb o u s s su C n D W) => e_chunk i h)
                    have HLd := Lib.hid (fun (W : World) (h : Bb w p st cl mb o u s s (uF s.P i) C n D W) => e_load i hi8 HI.out.1 h0 h)
                    generalize textB s.P i = tx at hct HCh HLd
                    have hbt := beq_text tx
                    have HL8 := Lib.hid HE.out.b.hl
                    by_cases hdb : s.D.getD i false = true
                    · rw [if_pos hdb] at hat
                      have HAT := Lib.hid hat
                      clear hat hct hdb
                      go_wp2
                      rename_i K7 ha7
                      have HA := Lib.hid ha7
                      clear ha7
                      refine wp_region_noPanic ?_
                      refine wp_region_held_drew (S := fun w' => MapN w' mb n D ∧ Blk w' cl 48 (textsC C).toArray) (by kernel_rfl) (⟨HE.out.m.keep0 (gb_drew _ _), HE.out.b.c.keep0 (gb_drew _ _)⟩) (fun hHeld => ?_)
                      replace HE := Lib.hid (HE.out.keep0 (gb_drew _ _))
                      refine wpAnyH_take (i := 0) (v := ?_) (List.getElem?_toArray.trans rfl) (by kernel_rfl) (by kernel_rfl) (by kernel_rfl) (fun _ _ _ h => h) (Or.inl ⟨by rfl, ?_⟩) hHeld ?_
                      rotate_left
                      · intro w' hSw; go_simp; try with_reducible rfl
                      try simp only [Act.put, List.setIfInBounds_toArray, List.set_cons_zero, List.set_cons_succ]
                      refine wpAnyH_take (i := 1) (v := ?_) (List.getElem?_toArray.trans rfl) (by kernel_rfl) (by kernel_rfl) (by kernel_rfl) (fun _ _ _ h => h) (Or.inl ⟨by rfl, ?_⟩) hHeld ?_
                      rotate_left
                      · intro w' hSw; go_simp; try with_reducible rfl
                      try simp only [Act.put, List.setIfInBounds_toArray, List.set_cons_zero, List.set_cons_succ]
                      refine wpAnyH_take (i := 2) (v := ?_) (List.getElem?_toArray.trans rfl) (by kernel_rfl) (by kernel_rfl) (by kernel_rfl) (fun _ _ _ h => h) (Or.inl ⟨by rfl, ?_⟩) hHeld ?_
                      rotate_left
                      · intro w' hSw; have cx := look_int (show MapN w' mb n D from hSw.1) (i : Nat) (by omega) 1 HAT.out; go_simp; try with_reducible rfl
                      try simp only [Act.put, List.setIfInBounds_toArray, List.set_cons_zero, List.set_cons_succ]
                      refine wpAnyH_take (i := 3) (v := ?_) (List.getElem?_toArray.trans rfl) (by kernel_rfl) (by kernel_rfl) (by kernel_rfl) (fun _ _ _ h => h) (Or.inl ⟨by rfl, ?_⟩) hHeld ?_
                      rotate_left
                      · intro w' hSw; go_simp; try with_reducible rfl
                      try simp only [Act.put, List.setIfInBounds_toArray, List.set_cons_zero, List.set_cons_succ]
                      refine wpAnyH_take (i := 4) (v := ?_) (List.getElem?_toArray.trans rfl) (by kernel_rfl) (by kernel_rfl) (by kernel_rfl) (fun _ _ _ h => h) (Or.inl ⟨by rfl, ?_⟩) hHeld ?_
                      rotate_left
                      · intro w' hSw; go_simp; try with_reducible rfl
                      try simp only [Act.put, List.setIfInBounds_toArray, List.set_cons_zero, List.set_cons_succ]
                      refine wpAnyH_take (i := 5) (v := undef) (List.getElem?_toArray.trans rfl) (by kernel_rfl) (by kernel_rfl) (by kernel_rfl) (fun _ _ _ h => h) (Or.inr ⟨by rfl, rfl⟩) hHeld ?_
                      try simp only [Act.put, List.setIfInBounds_toArray, List.set_cons_zero, List.set_cons_succ]
                      refine wpAnyH_take (i := 6) (v := undef) (List.getElem?_toArray.trans rfl) (by kernel_rfl) (by kernel_rfl) (by kernel_rfl) (fun _ _ _ h => h) (Or.inr ⟨by rfl, rfl⟩) hHeld ?_
                      try simp only [Act.put, List.setIfInBounds_toArray, List.set_cons_zero, List.set_cons_succ]
                      refine wpAnyH_take (i := 7) (v := undef) (List.getElem?_toArray.trans rfl) (by kernel_rfl) (by kernel_rfl) (by kernel_rfl) (fun _ _ _ h => h) (Or.inr ⟨by rfl, rfl⟩) hHeld ?_
                      try simp only [Act.put, List.setIfInBounds_toArray, List.set_cons_zero, List.set_cons_succ]
                      refine wpAnyH_take (i := 8) (v := undef) (List.getElem?_toArray.trans rfl) (by kernel_rfl) (by kernel_rfl) (by kernel_rfl) (fun _ _ _ h => h) (Or.inr ⟨by rfl, rfl⟩) hHeld ?_
                      try simp only [Act.put, List.setIfInBounds_toArray, List.set_cons_zero, List.set_cons_succ]
                      refine wpAnyH_take (i := 9) (v := undef) (List.getElem?_toArray.trans rfl) (by kernel_rfl) (by kernel_rfl) (by kernel_rfl) (fun _ _ _ h => h) (Or.inr ⟨by rfl, rfl⟩) hHeld ?_
                      try simp only [Act.put, List.setIfInBounds_toArray, List.set_cons_zero, List.set_cons_succ]
                      refine wpAnyH_take (i := 10) (v := undef) (List.getElem?_toArray.trans rfl) (by kernel_rfl) (by kernel_rfl) (by kernel_rfl) (fun _ _ _ h => h) (Or.inr ⟨by rfl, rfl⟩) hHeld ?_
                      try simp only [Act.put, List.setIfInBounds_toArray, List.set_cons_zero, List.set_cons_succ]
                      refine wpAnyH_take (i := 11) (v := undef) (List.getElem?_toArray.trans rfl) (by kernel_rfl) (by kernel_rfl) (by kernel_rfl) (fun _ _ _ h => h) (Or.inr ⟨by rfl, rfl⟩) hHeld ?_
                      try simp only [Act.put, List.setIfInBounds_toArray, List.set_cons_zero, List.set_cons_succ]
                      refine wpAnyH_take (i := 12) (v := ?_) (List.getElem?_toArray.trans rfl) (by kernel_rfl) (by kernel_rfl) (by kernel_rfl) (fun _ _ _ h => h) (Or.inl ⟨by rfl, ?_⟩) hHeld ?_
                      rotate_left
                      · intro w' hSw; go_simp; try with_reducible rfl
                      try simp only [Act.put, List.setIfInBounds_toArray, List.set_cons_zero, List.set_cons_succ]
                      refine wpAnyH_take (i := 13) (v := ?_) (List.getElem?_toArray.trans rfl) (by kernel_rfl) (by kernel_rfl) (by kernel_rfl) (fun _ _ _ h => h) (Or.inl ⟨by rfl, ?_⟩) hHeld ?_
                      rotate_left
                      · intro w' hSw; go_simp; try with_reducible rfl
                      try simp only [Act.put, List.setIfInBounds_toArray, List.set_cons_zero, List.set_cons_succ]
                      refine wpAnyH_take (i := 14) (v := ?_) (List.getElem?_toArray.trans rfl) (by kernel_rfl) (by kernel_rfl) (by kernel_rfl) (fun _ _ _ h => h) (Or.inl ⟨by rfl, ?_⟩) hHeld ?_
                      rotate_left
                      · intro w' hSw; go_simp; try with_reducible rfl
                      try simp only [Act.put, List.setIfInBounds_toArray, List.set_cons_zero, List.set_cons_succ]
                      refine wpAnyH_take (i := 15) (v := ?_) (List.getElem?_toArray.trans rfl) (by kernel_rfl) (by kernel_rfl) (by kernel_rfl) (fun _ _ _ h => h) (Or.inl ⟨by rfl, ?_⟩) hHeld ?_
                      rotate_left
                      · intro w' hSw; go_simp; try with_reducible rfl
                      try simp only [Act.put, List.setIfInBounds_toArray, List.set_cons_zero, List.set_cons_succ]
                      refine wpAnyH_take (i := 16) (v := ?_) (List.getElem?_toArray.trans rfl) (by kernel_rfl) (by kernel_rfl) (by kernel_rfl) (fun _ _ _ h => h) (Or.inl ⟨by rfl, ?_⟩) hHeld ?_
                      rotate_left
                      · intro w' hSw; go_simp; try with_reducible rfl
                      try simp only [Act.put, List.setIfInBounds_toArray, List.set_cons_zero, List.set_cons_succ]
                      refine wpAnyH_take (i := 17) (v := ?_) (List.getElem?_toArray.trans rfl) (by kernel_rfl) (by kernel_rfl) (by kernel_rfl) (fun _ _ _ h => h) (Or.inl ⟨by rfl, ?_⟩) hHeld ?_
                      rotate_left
                      · intro w' hSw; go_simp; try with_reducible rfl
                      try simp only [Act.put, List.setIfInBounds_toArray, List.set_cons_zero, List.set_cons_succ]
                      refine wpAnyH_ready (rs := [18]) (by kernel_rfl) (by simp) ?_
                      refine AllReadyH.cons (List.getElem?_toArray.trans rfl) (fun K hK => ?_) AllReadyH.nil
                      go_simp
                      go_at_call 24
                      (with_reducible refine (HCh.out _ _ HE.out).mono ?_)
                      rintro e w9 ⟨rfl, hB⟩
                      refine hK.out _ _ ⟨hB.m, hB.b.c⟩ (fun hHeld => ?_)
                      clear hK K
                      replace HE := Lib.hid hB
                      clear hB
                      try simp only [Act.put, List.setIfInBounds_toArray, List.set_cons_zero, List.set_cons_succ]
                      refine wpAnyH_ready (rs := [19]) (by kernel_rfl) (by simp) ?_
                      refine AllReadyH.cons (List.getElem?_toArray.trans rfl) (fun K hK => ?_) AllReadyH.nil
                      go_simp
                      go_at_call 14
                      (with_reducible refine (HLd.out _ HE.out).mono ?_)
                      rintro e w9 ⟨rfl, hB⟩
                      refine hK.out _ _ ⟨hB.m, hB.b.c⟩ (fun hHeld => ?_)
                      clear hK K
                      replace HE := Lib.hid hB
                      clear hB
                      try simp only [Act.put, List.setIfInBounds_toArray, List.set_cons_zero, List.set_cons_succ]
                      refine wpAnyH_take (i := 20) (v := ?_) (List.getElem?_toArray.trans rfl) (by kernel_rfl) (by kernel_rfl) (by kernel_rfl) (fun _ _ _ h => h) (Or.inl ⟨by rfl, ?_⟩) hHeld ?_
                      rotate_left
                      · intro w' hSw; go_simp; try with_reducible rfl
                      try simp only [Act.put, List.setIfInBounds_toArray, List.set_cons_zero, List.set_cons_succ]
                      refine wpAnyH_take (i := 21) (v := ?_) (List.getElem?_toArray.trans rfl) (by kernel_rfl) (by kernel_rfl) (by kernel_rfl) (fun _ _ _ h => h) (Or.inl ⟨by rfl, ?_⟩) hHeld ?_
                      rotate_left
                      · intro w' hSw; go_simp; try with_reducible rfl
                      try simp only [Act.put, List.setIfInBounds_toArray, List.set_cons_zero, List.set_cons_succ]
                      refine wpAnyH_done (by kernel_rfl) ?_ _
                      refine NoPanic.normal ?_
                      refine HA.out _ _ ?_
                      clear HA K7
                      go_wp2
                      go_roundw
                      case rel => exact ⟨i + 1, by omega, by go_num, HE⟩
                      case measure => simp [intOf]; omega
                    · rw [if_neg hdb] at hat
                      have HCT := Lib.hid (hct (by simpa using hdb))
                      have HAT := Lib.hid hat
                      clear hat hct hdb
                      go_wp2
                      rename_i K7 ha7
                      have HA := Lib.hid ha7
                      clear ha7
                      refine wp_region_noPanic ?_
                      refine wp_region_held_drew (S := fun w' => MapN w' mb n D ∧ Blk w' cl 48 (textsC C).toArray) (by kernel_rfl) (⟨HE.out.m.keep0 (gb_drew _ _), HE.out.b.c.keep0 (gb_drew _ _)⟩) (fun hHeld => ?_)
                      replace HE := Lib.hid (HE.out.keep0 (gb_drew _ _))
                      refine wpAnyH_take (i := 0) (v := ?_) (List.getElem?_toArray.trans rfl) (by kernel_rfl) (by kernel_rfl) (by kernel_rfl) (fun _ _ _ h => h) (Or.inl ⟨by rfl, ?_⟩) hHeld ?_
                      rotate_left
                      · intro w' hSw; go_simp; try with_reducible rfl
                      try simp only [Act.put, List.setIfInBounds_toArray, List.set_cons_zero, List.set_cons_succ]
                      refine wpAnyH_take (i := 1) (v := ?_) (List.getElem?_toArray.trans rfl) (by kernel_rfl) (by kernel_rfl) (by kernel_rfl) (fun _ _ _ h => h) (Or.inl ⟨by rfl, ?_⟩) hHeld ?_
                      rotate_left
                      · intro w' hSw; go_simp; try with_reducible rfl
                      try simp only [Act.put, List.setIfInBounds_toArray, List.set_cons_zero, List.set_cons_succ]
                      refine wpAnyH_take (i := 2) (v := ?_) (List.getElem?_toArray.trans rfl) (by kernel_rfl) (by kernel_rfl) (by kernel_rfl) (fun _ _ _ h => h) (Or.inl ⟨by rfl, ?_⟩) hHeld ?_
                      rotate_left
                      · intro w' hSw; have cx := look_int (show MapN w' mb n D from hSw.1) (i : Nat) (by omega) 0 HAT.out; go_simp; try with_reducible rfl
                      try simp only [Act.put, List.setIfInBounds_toArray, List.set_cons_zero, List.set_cons_succ]
                      refine wpAnyH_take (i := 3) (v := ?_) (List.getElem?_toArray.trans rfl) (by kernel_rfl) (by kernel_rfl) (by kernel_rfl) (fun _ _ _ h => h) (Or.inl ⟨by rfl, ?_⟩) hHeld ?_
                      rotate_left
                      · intro w' hSw; go_simp; try with_reducible rfl
                      try simp only [Act.put, List.setIfInBounds_toArray, List.set_cons_zero, List.set_cons_succ]
                      refine wpAnyH_take (i := 4) (v := ?_) (List.getElem?_toArray.trans rfl) (by kernel_rfl) (by kernel_rfl) (by kernel_rfl) (fun _ _ _ h => h) (Or.inl ⟨by rfl, ?_⟩) hHeld ?_
                      rotate_left
                      · intro w' hSw; go_simp; try with_reducible rfl
                      try simp only [Act.put, List.setIfInBounds_toArray, List.set_cons_zero, List.set_cons_succ]
                      refine wpAnyH_take (i := 5) (v := ?_) (List.getElem?_toArray.trans rfl) (by kernel_rfl) (by kernel_rfl) (by kernel_rfl) (fun _ _ _ h => h) (Or.inl ⟨by rfl, ?_⟩) hHeld ?_
                      rotate_left
                      · intro w' hSw; go_simp; try with_reducible rfl
                      try simp only [Act.put, List.setIfInBounds_toArray, List.set_cons_zero, List.set_cons_succ]
                      refine wpAnyH_take (i := 6) (v := ?_) (List.getElem?_toArray.trans rfl) (by kernel_rfl) (by kernel_rfl) (by kernel_rfl) (fun _ _ _ h => h) (Or.inl ⟨by rfl, ?_⟩) hHeld ?_
                      rotate_left
                      · intro w' hSw; go_simp; try with_reducible rfl
                      try simp only [Act.put, List.setIfInBounds_toArray, List.set_cons_zero, List.set_cons_succ]
                      refine wpAnyH_take (i := 8) (v := ?_) (List.getElem?_toArray.trans rfl) (by kernel_rfl) (by kernel_rfl) (by kernel_rfl) (fun _ _ _ h => h) (Or.inl ⟨by rfl, ?_⟩) hHeld ?_
                      rotate_left
                      · intro w' hSw; go_simp; try with_reducible rfl
                      try simp only [Act.put, List.setIfInBounds_toArray, List.set_cons_zero, List.set_cons_succ]
                      refine wpAnyH_take (i := 9) (v := ?_) (List.getElem?_toArray.trans rfl) (by kernel_rfl) (by kernel_rfl) (by kernel_rfl) (fun _ _ _ h => h) (Or.inl ⟨by rfl, ?_⟩) hHeld ?_
                      rotate_left
                      · intro w' hSw; go_simp; try with_reducible rfl
                      try simp only [Act.put, List.setIfInBounds_toArray, List.set_cons_zero, List.set_cons_succ]
                      refine wpAnyH_take (i := 10) (v := ?_) (List.getElem?_toArray.trans rfl) (by kernel_rfl) (by kernel_rfl) (by kernel_rfl) (fun _ _ _ h => h) (Or.inl ⟨by rfl, ?_⟩) hHeld ?_
                      rotate_left
                      · intro w' hSw; have cx := text_cell (show Blk w' cl 48 (textsC C).toArray from hSw.2) HL8.out hi8 HCT.out; go_simp; try with_reducible rfl
                      try simp only [Act.put, List.setIfInBounds_toArray, List.set_cons_zero, List.set_cons_succ]
                      refine wpAnyH_ready (rs := [7]) (by kernel_rfl) (by simp) ?_
                      refine AllReadyH.cons (List.getElem?_toArray.trans rfl) (fun K hK => ?_) AllReadyH.nil
                      go_simp
                      go_at_call 24
                      (with_reducible refine (HCh.out _ _ HE.out).mono ?_)
                      rintro e w9 ⟨rfl, hB⟩
                      refine hK.out _ _ ⟨hB.m, hB.b.c⟩ (fun hHeld => ?_)
                      clear hK K
                      replace HE := Lib.hid hB
                      clear hB
                      try simp only [Act.put, List.setIfInBounds_toArray, List.set_cons_zero, List.set_cons_succ]
                      refine wpAnyH_take (i := 11) (v := ?_) (List.getElem?_toArray.trans rfl) (by kernel_rfl) (by kernel_rfl) (by kernel_rfl) (fun _ _ _ h => h) (Or.inl ⟨by rfl, ?_⟩) hHeld ?_
                      rotate_left
                      · intro w' hSw; go_simp; try with_reducible rfl
                      try simp only [Act.put, List.setIfInBounds_toArray, List.set_cons_zero, List.set_cons_succ]
                      refine wpAnyH_take (i := 12) (v := ?_) (List.getElem?_toArray.trans rfl) (by kernel_rfl) (by kernel_rfl) (by kernel_rfl) (fun _ _ _ h => h) (Or.inl ⟨by rfl, ?_⟩) hHeld ?_
                      rotate_left
                      · intro w' hSw; go_simp; try with_reducible rfl
                      try simp only [Act.put, List.setIfInBounds_toArray, List.set_cons_zero, List.set_cons_succ]
                      refine wpAnyH_take (i := 13) (v := ?_) (List.getElem?_toArray.trans rfl) (by kernel_rfl) (by kernel_rfl) (by kernel_rfl) (fun _ _ _ h => h) (Or.inl ⟨by rfl, ?_⟩) hHeld ?_
                      rotate_left
                      · intro w' hSw; go_simp; try with_reducible rfl
                      try simp only [Act.put, List.setIfInBounds_toArray, List.set_cons_zero, List.set_cons_succ]
                      refine wpAnyH_take (i := 14) (v := ?_) (List.getElem?_toArray.trans rfl) (by kernel_rfl) (by kernel_rfl) (by kernel_rfl) (fun _ _ _ h => h) (Or.inl ⟨by rfl, ?_⟩) hHeld ?_
                      rotate_left
                      · intro w' hSw; go_simp; try with_reducible rfl
                      try simp only [Act.put, List.setIfInBounds_toArray, List.set_cons_zero, List.set_cons_succ]
                      refine wpAnyH_take (i := 15) (v := ?_) (List.getElem?_toArray.trans rfl) (by kernel_rfl) (by kernel_rfl) (by kernel_rfl) (fun _ _ _ h => h) (Or.inl ⟨by rfl, ?_⟩) hHeld ?_
                      rotate_left
                      · intro w' hSw; go_simp; try with_reducible rfl
                      try simp only [Act.put, List.setIfInBounds_toArray, List.set_cons_zero, List.set_cons_succ]
                      refine wpAnyH_take (i := 16) (v := ?_) (List.getElem?_toArray.trans rfl) (by kernel_rfl) (by kernel_rfl) (by kernel_rfl) (fun _ _ _ h => h) (Or.inl ⟨by rfl, ?_⟩) hHeld ?_
                      rotate_left
                      · intro w' hSw; go_simp; try with_reducible rfl
                      try simp only [Act.put, List.setIfInBounds_toArray, List.set_cons_zero, List.set_cons_succ]
                      refine wpAnyH_take (i := 17) (v := ?_) (List.getElem?_toArray.trans rfl) (by kernel_rfl) (by kernel_rfl) (by kernel_rfl) (fun _ _ _ h => h) (Or.inl ⟨by rfl, ?_⟩) hHeld ?_
                      rotate_left
                      · intro w' hSw; go_simp; try with_reducible rfl
                      try simp only [Act.put, List.setIfInBounds_toArray, List.set_cons_zero, List.set_cons_succ]
                      refine wpAnyH_ready (rs := [18]) (by kernel_rfl) (by simp) ?_
                      refine AllReadyH.cons (List.getElem?_toArray.trans rfl) (fun K hK => ?_) AllReadyH.nil
                      go_simp
                      go_at_call 24
                      (with_reducible refine (HCh.out _ _ HE.out).mono ?_)
                      rintro e w9 ⟨rfl, hB⟩
                      refine hK.out _ _ ⟨hB.m, hB.b.c⟩ (fun hHeld => ?_)
                      clear hK K
                      replace HE := Lib.hid hB
                      clear hB
                      try simp only [Act.put, List.setIfInBounds_toArray, List.set_cons_zero, List.set_cons_succ]
                      refine wpAnyH_ready (rs := [19]) (by kernel_rfl) (by simp) ?_
                      refine AllReadyH.cons (List.getElem?_toArray.trans rfl) (fun K hK => ?_) AllReadyH.nil
                      go_simp
                      go_at_call 14
                      (with_reducible refine (HLd.out _ HE.out).mono ?_)
                      rintro e w9 ⟨rfl, hB⟩
                      refine hK.out _ _ ⟨hB.m, hB.b.c⟩ (fun hHeld => ?_)
                      clear hK K
                      replace HE := Lib.hid hB
                      clear hB
                      try simp only [Act.put, List.setIfInBounds_toArray, List.set_cons_zero, List.set_cons_succ]
                      refine wpAnyH_take (i := 20) (v := ?_) (List.getElem?_toArray.trans rfl) (by kernel_rfl) (by kernel_rfl) (by kernel_rfl) (fun _ _ _ h => h) (Or.inl ⟨by rfl, ?_⟩) hHeld ?_
                      rotate_left
                      · intro w' hSw; go_simp; try with_reducible rfl
                      try simp only [Act.put, List.setIfInBounds_toArray, List.set_cons_zero, List.set_cons_succ]
                      refine wpAnyH_take (i := 21) (v := ?_) (List.getElem?_toArray.trans rfl) (by kernel_rfl) (by kernel_rfl) (by kernel_rfl) (fun _ _ _ h => h) (Or.inl ⟨by rfl, ?_⟩) hHeld ?_
                      rotate_left
                      · intro w' hSw; go_simp; try with_reducible rfl
                      try simp only [Act.put, List.setIfInBounds_toArray, List.set_cons_zero, List.set_cons_succ]
                      refine wpAnyH_done (by kernel_rfl) ?_ _
                      refine NoPanic.normal ?_
                      refine HA.out _ _ ?_
                      clear HA K7
                      go_wp2
                      go_roundw
                      case rel => exact ⟨i + 1, by omega, by go_num, HE⟩
                      case measure => simp [intOf]; omega
                  · have hi9 : i = 8 := by omega
                    subst hi9
                    have hE8 := HE.out
                    rw [uF_all hE8.b.ql] at hE8
                    replace HE := Lib.hid hE8
                    clear hE8
                    have hi88 : ((8 : Nat) : Int) = 8 := rfl
                    rw [hi88]
                    clear hi88 hi hi8
                    go_wp2
                    go_loopw [19] (fun v19 wr => ∃ (k : Nat) (so : TB), k ≤ 960 ∧ v19 = .int .i64 ((k : Int) + 1) ∧ so.P = oF s.P k ∧ Hid (Bb w p st cl mb o u s so ⟨s.P, offs 8⟩ C n D wr)) (fun v19 _ => 961 - (intOf v19).toNat)
                    case atStart => exact ⟨0, s, by omega, rfl, (oF_zero s.P).symm, HE⟩
                    case round =>
                      obtain ⟨q, so, hq, rfl, hoP, HF⟩ := hrel
                      clear HE
                      have HE := HF
                      clear HF
                      by_cases hq9 : q < 960
                      · have hqi : (q : Int) + 1 ≤ 960 := by omega
                        have hto : ((q : Int) + 1).toNat = q + 1 := by omega
                        have hb1 : (0 : Int) ≤ (q : Int) + 1 := by omega
                        have hb2 : (q : Int) + 1 < 961 := by omega
                        go_wp2_with (go_at_call 10; (with_reducible refine (e_drop q hq9 hoP h0 HE.out).mono ?_); rintro e w9 ⟨c9, s9, rfl, hP9, hB⟩; replace HE := Lib.hid hB; clear hB)
                        have HGp := Lib.hid (fun (W : World) (h : Bb w p st cl mb o u s s9 ⟨s.P, offs 8⟩ C n D W) => e_getP q hq9 h)
                        have HGu := Lib.hid (fun (W : World) (h : Bb w p st cl mb o u s s9 ⟨s.P, offs 8⟩ C n D W) => e_getS q hq9 h)
                        have HGo := Lib.hid (fun (W : World) (h : Bb w p st cl mb o u s s9 ⟨s.P, offs 8⟩ C n D W) => e_get0 q hq9 hP9 h)
                        have HST := Lib.hid (fun (W : World) (h : Blk W st 47 (intsC (0 :: s.P)).toArray) => stand_cell h HE.out.b.ql hq9)
                        generalize s.P.getD q 0 = gp at HGp HGu HST
                        have hgg : ((gp : Int) != (gp : Int)) = false := by simp
                        rename_i K7 ha7
                        have HA := Lib.hid ha7
                        clear ha7
                        refine wp_region_noPanic ?_
                        refine wp_region_held_drew (S := fun w' => Blk w' st 47 (intsC (0 :: s.P)).toArray) (by kernel_rfl) (HE.out.b.a.keep0 (gb_drew _ _)) (fun hHeld => ?_)
                        replace HE := Lib.hid (HE.out.keep0 (gb_drew _ _))
                        refine wpAnyH_take (i := 0) (v := ?_) (List.getElem?_toArray.trans rfl) (by kernel_rfl) (by kernel_rfl) (by kernel_rfl) (fun _ _ _ h => h) (Or.inl ⟨by rfl, ?_⟩) hHeld ?_
                        rotate_left
                        · intro w' hSw; go_simp; try with_reducible rfl
                        try simp only [Act.put, List.setIfInBounds_toArray, List.set_cons_zero, List.set_cons_succ]
                        refine wpAnyH_take (i := 1) (v := ?_) (List.getElem?_toArray.trans rfl) (by kernel_rfl) (by kernel_rfl) (by kernel_rfl) (fun _ _ _ h => h) (Or.inl ⟨by rfl, ?_⟩) hHeld ?_
                        rotate_left
                        · intro w' hSw; go_simp; try with_reducible rfl
                        try simp only [Act.put, List.setIfInBounds_toArray, List.set_cons_zero, List.set_cons_succ]
                        refine wpAnyH_take (i := 3) (v := ?_) (List.getElem?_toArray.trans rfl) (by kernel_rfl) (by kernel_rfl) (by kernel_rfl) (fun _ _ _ h => h) (Or.inl ⟨by rfl, ?_⟩) hHeld ?_
                        rotate_left
                        · intro w' hSw; go_simp; try with_reducible rfl
                        try simp only [Act.put, List.setIfInBounds_toArray, List.set_cons_zero, List.set_cons_succ]
                        refine wpAnyH_take (i := 4) (v := ?_) (List.getElem?_toArray.trans rfl) (by kernel_rfl) (by kernel_rfl) (by kernel_rfl) (fun _ _ _ h => h) (Or.inl ⟨by rfl, ?_⟩) hHeld ?_
                        rotate_left
                        · intro w' hSw; go_simp; try with_reducible rfl
                        try simp only [Act.put, List.setIfInBounds_toArray, List.set_cons_zero, List.set_cons_succ]
                        refine wpAnyH_take (i := 5) (v := ?_) (List.getElem?_toArray.trans rfl) (by kernel_rfl) (by kernel_rfl) (by kernel_rfl) (fun _ _ _ h => h) (Or.inl ⟨by rfl, ?_⟩) hHeld ?_
                        rotate_left
                        · intro w' hSw; have cx := HST.out w' (show Blk w' st 47 (intsC (0 :: s.P)).toArray from hSw); go_simp; try with_reducible rfl
                        try simp only [Act.put, List.setIfInBounds_toArray, List.set_cons_zero, List.set_cons_succ]
                        refine wpAnyH_ready (rs := [2]) (by kernel_rfl) (by simp) ?_
                        refine AllReadyH.cons (List.getElem?_toArray.trans rfl) (fun K hK => ?_) AllReadyH.nil
                        go_simp
                        go_at_call 20
                        (with_reducible refine (HGp.out _ HE.out).mono ?_)
                        rintro e w9 ⟨rfl, rfl⟩
                        refine hK.out _ _ hHeld (fun hHeld => ?_)
                        clear hK K
                        try simp only [Act.put, List.setIfInBounds_toArray, List.set_cons_zero, List.set_cons_succ]
                        refine wpAnyH_take (i := 6) (v := ?_) (List.getElem?_toArray.trans rfl) (by kernel_rfl) (by kernel_rfl) (by kernel_rfl) (fun _ _ _ h => h) (Or.inl ⟨by rfl, ?_⟩) hHeld ?_
                        rotate_left
                        · intro w' hSw; go_simp; try with_reducible rfl
                        try simp only [Act.put, List.setIfInBounds_toArray, List.set_cons_zero, List.set_cons_succ]
                        refine wpAnyH_take (i := 7) (v := ?_) (List.getElem?_toArray.trans rfl) (by kernel_rfl) (by kernel_rfl) (by kernel_rfl) (fun _ _ _ h => h) (Or.inl ⟨by rfl, ?_⟩) hHeld ?_
                        rotate_left
                        · intro w' hSw; go_simp; try with_reducible rfl
                        try simp only [Act.put, List.setIfInBounds_toArray, List.set_cons_zero, List.set_cons_succ]
                        refine wpAnyH_take (i := 8) (v := ?_) (List.getElem?_toArray.trans rfl) (by kernel_rfl) (by kernel_rfl) (by kernel_rfl) (fun _ _ _ h => h) (Or.inl ⟨by rfl, ?_⟩) hHeld ?_
                        rotate_left
                        · intro w' hSw; go_simp; try with_reducible rfl
                        try simp only [Act.put, List.setIfInBounds_toArray, List.set_cons_zero, List.set_cons_succ]
                        refine wpAnyH_take (i := 9) (v := ?_) (List.getElem?_toArray.trans rfl) (by kernel_rfl) (by kernel_rfl) (by kernel_rfl) (fun _ _ _ h => h) (Or.inl ⟨by rfl, ?_⟩) hHeld ?_
                        rotate_left
                        · intro w' hSw; go_simp; try with_reducible rfl
                        try simp only [Act.put, List.setIfInBounds_toArray, List.set_cons_zero, List.set_cons_succ]
                        refine wpAnyH_take (i := 11) (v := ?_) (List.getElem?_toArray.trans rfl) (by kernel_rfl) (by kernel_rfl) (by kernel_rfl) (fun _ _ _ h => h) (Or.inl ⟨by rfl, ?_⟩) hHeld ?_
                        rotate_left
                        · intro w' hSw; go_simp; try with_reducible rfl
                        try simp only [Act.put, List.setIfInBounds_toArray, List.set_cons_zero, List.set_cons_succ]
                        refine wpAnyH_take (i := 12) (v := ?_) (List.getElem?_toArray.trans rfl) (by kernel_rfl) (by kernel_rfl) (by kernel_rfl) (fun _ _ _ h => h) (Or.inl ⟨by rfl, ?_⟩) hHeld ?_
                        rotate_left
                        · intro w' hSw; go_simp; try with_reducible rfl
                        try simp only [Act.put, List.setIfInBounds_toArray, List.set_cons_zero, List.set_cons_succ]
                        refine wpAnyH_take (i := 13) (v := ?_) (List.getElem?_toArray.trans rfl) (by kernel_rfl) (by kernel_rfl) (by kernel_rfl) (fun _ _ _ h => h) (Or.inl ⟨by rfl, ?_⟩) hHeld ?_
                        rotate_left
                        · intro w' hSw; have cx := HST.out w' (show Blk w' st 47 (intsC (0 :: s.P)).toArray from hSw); go_simp; try with_reducible rfl
                        try simp only [Act.put, List.setIfInBounds_toArray, List.set_cons_zero, List.set_cons_succ]
                        refine wpAnyH_ready (rs := [10]) (by kernel_rfl) (by simp) ?_
                        refine AllReadyH.cons (List.getElem?_toArray.trans rfl) (fun K hK => ?_) AllReadyH.nil
                        go_simp
                        go_at_call 20
                        (with_reducible refine (HGu.out _ HE.out).mono ?_)
                        rintro e w9 ⟨rfl, rfl⟩
                        refine hK.out _ _ hHeld (fun hHeld => ?_)
                        clear hK K
                        try simp only [Act.put, List.setIfInBounds_toArray, List.set_cons_zero, List.set_cons_succ]
                        refine wpAnyH_take (i := 14) (v := ?_) (List.getElem?_toArray.trans rfl) (by kernel_rfl) (by kernel_rfl) (by kernel_rfl) (fun _ _ _ h => h) (Or.inl ⟨by rfl, ?_⟩) hHeld ?_
                        rotate_left
                        · intro w' hSw; go_simp; try with_reducible rfl
                        try simp only [Act.put, List.setIfInBounds_toArray, List.set_cons_zero, List.set_cons_succ]
                        refine wpAnyH_take (i := 15) (v := ?_) (List.getElem?_toArray.trans rfl) (by kernel_rfl) (by kernel_rfl) (by kernel_rfl) (fun _ _ _ h => h) (Or.inl ⟨by rfl, ?_⟩) hHeld ?_
                        rotate_left
                        · intro w' hSw; go_simp; try with_reducible rfl
                        try simp only [Act.put, List.setIfInBounds_toArray, List.set_cons_zero, List.set_cons_succ]
                        refine wpAnyH_take (i := 16) (v := ?_) (List.getElem?_toArray.trans rfl) (by kernel_rfl) (by kernel_rfl) (by kernel_rfl) (fun _ _ _ h => h) (Or.inl ⟨by rfl, ?_⟩) hHeld ?_
                        rotate_left
                        · intro w' hSw; go_simp; try with_reducible rfl
                        try simp only [Act.put, List.setIfInBounds_toArray, List.set_cons_zero, List.set_cons_succ]
                        refine wpAnyH_take (i := 17) (v := ?_) (List.getElem?_toArray.trans rfl) (by kernel_rfl) (by kernel_rfl) (by kernel_rfl) (fun _ _ _ h => h) (Or.inl ⟨by rfl, ?_⟩) hHeld ?_
                        rotate_left
                        · intro w' hSw; go_simp; try with_reducible rfl
                        try simp only [Act.put, List.setIfInBounds_toArray, List.set_cons_zero, List.set_cons_succ]
                        refine wpAnyH_take (i := 18) (v := ?_) (List.getElem?_toArray.trans rfl) (by kernel_rfl) (by kernel_rfl) (by kernel_rfl) (fun _ _ _ h => h) (Or.inl ⟨by rfl, ?_⟩) hHeld ?_
                        rotate_left
                        · intro w' hSw; go_simp; try with_reducible rfl
                        try simp only [Act.put, List.setIfInBounds_toArray, List.set_cons_zero, List.set_cons_succ]
                        refine wpAnyH_ready (rs := [19]) (by kernel_rfl) (by simp) ?_
                        refine AllReadyH.cons (List.getElem?_toArray.trans rfl) (fun K hK => ?_) AllReadyH.nil
                        go_simp
                        go_at_call 20
                        (with_reducible refine (HGo.out _ HE.out).mono ?_)
                        rintro e w9 ⟨rfl, rfl⟩
                        refine hK.out _ _ hHeld (fun hHeld => ?_)
                        clear hK K
                        try simp only [Act.put, List.setIfInBounds_toArray, List.set_cons_zero, List.set_cons_succ]
                        refine wpAnyH_take (i := 20) (v := ?_) (List.getElem?_toArray.trans rfl) (by kernel_rfl) (by kernel_rfl) (by kernel_rfl) (fun _ _ _ h => h) (Or.inl ⟨by rfl, ?_⟩) hHeld ?_
                        rotate_left
                        · intro w' hSw; go_simp; try with_reducible rfl
                        try simp only [Act.put, List.setIfInBounds_toArray, List.set_cons_zero, List.set_cons_succ]
                        refine wpAnyH_take (i := 21) (v := ?_) (List.getElem?_toArray.trans rfl) (by kernel_rfl) (by kernel_rfl) (by kernel_rfl) (fun _ _ _ h => h) (Or.inl ⟨by rfl, ?_⟩) hHeld ?_
                        rotate_left
                        · intro w' hSw; go_simp; try with_reducible rfl
                        try simp only [Act.put, List.setIfInBounds_toArray, List.set_cons_zero, List.set_cons_succ]
                        refine wpAnyH_done (by kernel_rfl) ?_ _
                        refine NoPanic.normal ?_
                        refine HA.out _ _ ?_
                        clear HA K7
                        go_wp2
                        go_roundw
                        case rel => exact ⟨q + 1, s9, by omega, by go_num, hP9, HE⟩
                        case measure => simp [intOf]; omega
                      · have hq0 : q = 960 := by omega
                        subst hq0
                        have hso : secsF so.P = [] := by rw [hoP, oF_all HE.out.b.ql]; exact secs_nots 960
                        obtain ⟨M, hM9⟩ : ∃ M, (secsF s.P).length = M := ⟨_, rfl⟩
                        have hMM : ((M : Int) == (M : Int)) = true := by simp
                        have hql : ¬ ((960 : Int) + 1 ≤ 960) := by omega
                        have h961 : ((960 : Nat) : Int) = 960 := rfl
                        rw [h961]
                        go_wp2_with (first
                          | (go_at_call 25; (with_reducible refine (e_dirtyU HE.out).mono ?_); rintro e w9 ⟨ax, cx, rfl, hB⟩; replace HE := Lib.hid hB; clear hB)
                          | (go_at_call 26; (with_reducible refine (e_secO hso HE.out).mono ?_); rintro e w9 ⟨ax, cx, rfl, hB⟩; replace HE := Lib.hid hB; clear hB)
                          | (go_at_call 26; (with_reducible refine (e_secP hM9 HE.out).mono ?_); rintro e w9 ⟨ax, cx, rfl, hB⟩; replace HE := Lib.hid hB; clear hB)
                          | (go_at_call 26; (with_reducible refine (e_secU hM9 HE.out).mono ?_); rintro e w9 ⟨ax, cx, rfl, hB⟩; replace HE := Lib.hid hB; clear hB))
                        go_ret
                        exact ⟨rfl, HE.out.b.g⟩
          · clear hin
            go_wp2_with (go_at_call 25; (with_reducible refine (dirty_any p s _ (HB.out.keep0 (gb_alloc wr (.map #[] 0) none)).t).mono ?_); rintro e w5 ⟨v5, rfl, o5, g5⟩; obtain ⟨ao5, cp5, rfl⟩ := nts_shape (Sl_owns o5))
            have hMp := MapN.mk wr
            have hcm : cl < wr.heap.size := HB.out.c.lt
            have hFr : Far wr.heap.size w5 (.slice ao5 (dirtyF s.D).length cp5) (dirtyF s.D) := owns_mono o5 (by rw [World.size_alloc]; omega)
            have hB5 := HB.out.keep0 (gb_trans (gb_alloc wr (.map #[] 0) none) g5)
            replace hMp := hMp.keep0 g5
            have HB5 := Lib.hid (And.intro hB5 (And.intro hMp hFr))
            clear hB5 hMp hFr o5 g5 HB hmm
            generalize wr.heap.size = mb at HB5 hcm ⊢
            obtain ⟨dl, hdl⟩ : ∃ dl, dirtyF s.D = dl := ⟨_, rfl⟩
            have HDL := Lib.hid hdl
            rw [hdl] at HB5 ⊢
            obtain ⟨N, hN⟩ : ∃ N, dl.length = N := ⟨_, rfl⟩
            have HN := Lib.hid hN
            have hN8 : N ≤ 8 := by rw [← hN, ← hdl]; exact dirtyTo_length s.D 8
            rw [hN] at HB5 ⊢
            clear hdl hN
            go_loopw [103] (fun v103 wr => ∃ (j n : Nat) (D : DataW Unit), j ≤ N ∧ n ≤ j ∧ v103 = .int .i64 j ∧ MapN wr mb n D ∧ Hid (Seen D (dl.take j)) ∧ Hid (Ba w p st cl s s.P C wr ∧ Far mb wr (.slice ao5 N cp5) dl)) (fun v103 _ => N - (intOf v103).toNat)
            case atStart => exact ⟨0, 0, _, by omega, by omega, rfl, HB5.out.2.1, Lib.hid seen_nil, Lib.hid ⟨HB5.out.1, HB5.out.2.2⟩⟩
            case round =>
              obtain ⟨j, n, D, hj, hn, rfl, hM, HS, HP⟩ := hrel
              clear HB5
              have HM := Lib.hid hM
              by_cases hjn : j < N
              · have hji : (j : Int) < (N : Int) := by omega
                obtain ⟨d, hdd⟩ : ∃ d, dl.getD j 0 = d := ⟨_, rfl⟩
                have HDD := Lib.hid hdd
                obtain ⟨ax, hax, cj⟩ := nts_cell (HP.out.2.nts) (by rw [HN.out]; exact hjn)
                rw [hdd] at cj
                clear hdd
                subst hax
                have hd8 : d < 8 := by rw [← HDD.out]; exact dirty_lt HDL.out (by rw [HN.out]; exact hjn)
                obtain ⟨w6, hup, hM6, g6⟩ := put_int hM (by omega) (d : Nat) (by omega) 1 (by omega)
                go_wp2
                go_roundw
                case rel => exact ⟨j + 1, n + 1, _, by omega, by omega, by go_num, hM6, Lib.hid (take_snoc' HN.out hjn HDD.out ▸ seen_put HS.out (World.ownsMap.isMap HM.out) d), Lib.hid ⟨HP.out.1.keep h0 g6 hcm, HP.out.2.keepP g6⟩⟩
                case measure => simp [intOf]; omega
              · have hjN : j = N := by omega
                have hSD : Seen D (dirtyF s.D) := by rw [HDL.out]; have := HS.out; rw [List.take_of_length_le (by rw [HN.out]; omega)] at this; exact this
                have HSD := Lib.hid hSD
                clear hSD HS
                go_wp2_with (first
                  | (go_at_call 18; (with_reducible refine (copy_any p s _ HP.out.1.t).mono ?_); rintro e w7 ⟨rfl, P7, g7⟩)
                  | (go_at_call 6; (with_reducible refine (tnew_any _).mono ?_); rintro e w8 ⟨rfl, P8, g8⟩))
                have HE := Lib.hid (e_start HP.out.1 HM.out hcm P7 g7 P8 g8)
                clear P7 g7 P8 g8 hM HM HP
                generalize wr.heap.size = o at HE ⊢
                generalize w7.heap.size = u at HE ⊢
                go_loopw [18] (fun v18 wr => ∃ i : Nat, i ≤ 8 ∧ v18 = .int .i64 i ∧ Hid (Bb w p st cl mb o u s s (uF s.P i) C n D wr)) (fun v18 _ => 8 - (intOf v18).toNat)
                case atStart => exact ⟨0, by omega, rfl, HE⟩
                case round =>
                  obtain ⟨i, hi, rfl, HF⟩ := hrel
                  clear HE
                  have HE := HF
                  clear HF
                  by_cases hi8 : i < 8
                  · have hii : (i : Int) < 8 := by omega
                    have hat := seen_dirty HSD.out i hi8
                    have hct := HI.out.2.2 i hi8
                    have HCh := Lib.hid (fun (W : World) (su : TB) (h : Bb w p st cl mb o u s s su C n D W) => e_chunk i h)
                    have HLd := Lib.hid (fun (W : World) (h : Bb w p st cl mb o u s s (uF s.P i) C n D W) => e_load i hi8 HI.out.1 h0 h)
                    generalize textB s.P i = tx at hct HCh HLd
                    have hbt := beq_text tx
                    have HL8 := Lib.hid HE.out.b.hl
                    by_cases hdb : s.D.getD i false = true
                    · rw [if_pos hdb] at hat
                      have HAT := Lib.hid hat
                      clear hat hct hdb
                      go_wp2
                      rename_i K7 ha7
                      have HA := Lib.hid ha7
                      clear ha7
                      refine wp_region_noPanic ?_
                      refine wp_region_held_drew (S := fun w' => MapN w' mb n D ∧ Blk w' cl 48 (textsC C).toArray) (by kernel_rfl) (⟨HE.out.m.keep0 (gb_drew _ _), HE.out.b.c.keep0 (gb_drew _ _)⟩) (fun hHeld => ?_)
                      replace HE := Lib.hid (HE.out.keep0 (gb_drew _ _))
                      refine wpAnyH_take (i := 0) (v := ?_) (List.getElem?_toArray.trans rfl) (by kernel_rfl) (by kernel_rfl) (by kernel_rfl) (fun _ _ _ h => h) (Or.inl ⟨by rfl, ?_⟩) hHeld ?_
                      rotate_left
                      · intro w' hSw; go_simp; try with_reducible rfl
                      try simp only [Act.put, List.setIfInBounds_toArray, List.set_cons_zero, List.set_cons_succ]
                      refine wpAnyH_take (i := 1) (v := ?_) (List.getElem?_toArray.trans rfl) (by kernel_rfl) (by kernel_rfl) (by kernel_rfl) (fun _ _ _ h => h) (Or.inl ⟨by rfl, ?_⟩) hHeld ?_
                      rotate_left
                      · intro w' hSw; go_simp; try with_reducible rfl
                      try simp only [Act.put, List.setIfInBounds_toArray, List.set_cons_zero, List.set_cons_succ]
                      refine wpAnyH_take (i := 2) (v := ?_) (List.getElem?_toArray.trans rfl) (by kernel_rfl) (by kernel_rfl) (by kernel_rfl) (fun _ _ _ h => h) (Or.inl ⟨by rfl, ?_⟩) hHeld ?_
                      rotate_left
                      · intro w' hSw; have cx := look_int (show MapN w' mb n D from hSw.1) (i : Nat) (by omega) 1 HAT.out; go_simp; try with_reducible rfl
                      try simp only [Act.put, List.setIfInBounds_toArray, List.set_cons_zero, List.set_cons_succ]
                      refine wpAnyH_take (i := 3) (v := ?_) (List.getElem?_toArray.trans rfl) (by kernel_rfl) (by kernel_rfl) (by kernel_rfl) (fun _ _ _ h => h) (Or.inl ⟨by rfl, ?_⟩) hHeld ?_
                      rotate_left
                      · intro w' hSw; go_simp; try with_reducible rfl
                      try simp only [Act.put, List.setIfInBounds_toArray, List.set_cons_zero, List.set_cons_succ]
                      refine wpAnyH_take (i := 4) (v := ?_) (List.getElem?_toArray.trans rfl) (by kernel_rfl) (by kernel_rfl) (by kernel_rfl) (fun _ _ _ h => h) (Or.inl ⟨by rfl, ?_⟩) hHeld ?_
                      rotate_left
                      · intro w' hSw; go_simp; try with_reducible rfl
                      try simp only [Act.put, List.setIfInBounds_toArray, List.set_cons_zero, List.set_cons_succ]
                      refine wpAnyH_take (i := 5) (v := undef) (List.getElem?_toArray.trans rfl) (by kernel_rfl) (by kernel_rfl) (by kernel_rfl) (fun _ _ _ h => h) (Or.inr ⟨by rfl, rfl⟩) hHeld ?_
                      try simp only [Act.put, List.setIfInBounds_toArray, List.set_cons_zero, List.set_cons_succ]
                      refine wpAnyH_take (i := 6) (v := undef) (List.getElem?_toArray.trans rfl) (by kernel_rfl) (by kernel_rfl) (by kernel_rfl) (fun _ _ _ h => h) (Or.inr ⟨by rfl, rfl⟩) hHeld ?_
                      try simp only [Act.put, List.setIfInBounds_toArray, List.set_cons_zero, List.set_cons_succ]
                      refine wpAnyH_take (i := 7) (v := undef) (List.getElem?_toArray.trans rfl) (by kernel_rfl) (by kernel_rfl) (by kernel_rfl) (fun _ _ _ h => h) (Or.inr ⟨by rfl, rfl⟩) hHeld ?_
                      try simp only [Act.put, List.setIfInBounds_toArray, List.set_cons_zero, List.set_cons_succ]
                      refine wpAnyH_take (i := 8) (v := undef) (List.getElem?_toArray.trans rfl) (by kernel_rfl) (by kernel_rfl) (by kernel_rfl) (fun _ _ _ h => h) (Or.inr ⟨by rfl, rfl⟩) hHeld ?_
                      try simp only [Act.put, List.setIfInBounds_toArray, List.set_cons_zero, List.set_cons_succ]
                      refine wpAnyH_take (i := 9) (v := undef) (List.getElem?_toArray.trans rfl) (by kernel_rfl) (by kernel_rfl) (by kernel_rfl) (fun _ _ _ h => h) (Or.inr ⟨by rfl, rfl⟩) hHeld ?_
                      try simp only [Act.put, List.setIfInBounds_toArray, List.set_cons_zero, List.set_cons_succ]
                      refine wpAnyH_take (i := 10) (v := undef) (List.getElem?_toArray.trans rfl) (by kernel_rfl) (by kernel_rfl) (by kernel_rfl) (fun _ _ _ h => h) (Or.inr ⟨by rfl, rfl⟩) hHeld ?_
                      try simp only [Act.put, List.setIfInBounds_toArray, List.set_cons_zero, List.set_cons_succ]
                      refine wpAnyH_take (i := 11) (v := undef) (List.getElem?_toArray.trans rfl) (by kernel_rfl) (by kernel_rfl) (by kernel_rfl) (fun _ _ _ h => h) (Or.inr ⟨by rfl, rfl⟩) hHeld ?_
                      try simp only [Act.put, List.setIfInBounds_toArray, List.set_cons_zero, List.set_cons_succ]
                      refine wpAnyH_take (i := 12) (v := ?_) (List.getElem?_toArray.trans rfl) (by kernel_rfl) (by kernel_rfl) (by kernel_rfl) (fun _ _ _ h => h) (Or.inl ⟨by rfl, ?_⟩) hHeld ?_
                      rotate_left
                      · intro w' hSw; go_simp; try with_reducible rfl
                      try simp only [Act.put, List.setIfInBounds_toArray, List.set_cons_zero, List.set_cons_succ]
                      refine wpAnyH_take (i := 13) (v := ?_) (List.getElem?_toArray.trans rfl) (by kernel_rfl) (by kernel_rfl) (by kernel_rfl) (fun _ _ _ h => h) (Or.inl ⟨by rfl, ?_⟩) hHeld ?_
                      rotate_left
                      · intro w' hSw; go_simp; try with_reducible rfl
                      try simp only [Act.put, List.setIfInBounds_toArray, List.set_cons_zero, List.set_cons_succ]
                      refine wpAnyH_take (i := 14) (v := ?_) (List.getElem?_toArray.trans rfl) (by kernel_rfl) (by kernel_rfl) (by kernel_rfl) (fun _ _ _ h => h) (Or.inl ⟨by rfl, ?_⟩) hHeld ?_
                      rotate_left
                      · intro w' hSw; go_simp; try with_reducible rfl
                      try simp only [Act.put, List.setIfInBounds_toArray, List.set_cons_zero, List.set_cons_succ]
                      refine wpAnyH_take (i := 15) (v := ?_) (List.getElem?_toArray.trans rfl) (by kernel_rfl) (by kernel_rfl) (by kernel_rfl) (fun _ _ _ h => h) (Or.inl ⟨by rfl, ?_⟩) hHeld ?_
                      rotate_left
                      · intro w' hSw; go_simp; try with_reducible rfl
                      try simp only [Act.put, List.setIfInBounds_toArray, List.set_cons_zero, List.set_cons_succ]
                      refine wpAnyH_take (i := 16) (v := ?_) (List.getElem?_toArray.trans rfl) (by kernel_rfl) (by kernel_rfl) (by kernel_rfl) (fun _ _ _ h => h) (Or.inl ⟨by rfl, ?_⟩) hHeld ?_
                      rotate_left
                      · intro w' hSw; go_simp; try with_reducible rfl
                      try simp only [Act.put, List.setIfInBounds_toArray, List.set_cons_zero, List.set_cons_succ]
                      refine wpAnyH_take (i := 17) (v := ?_) (List.getElem?_toArray.trans rfl) (by kernel_rfl) (by kernel_rfl) (by kernel_rfl) (fun _ _ _ h => h) (Or.inl ⟨by rfl, ?_⟩) hHeld ?_
                      rotate_left
                      · intro w' hSw; go_simp; try with_reducible rfl
                      try simp only [Act.put, List.setIfInBounds_toArray, List.set_cons_zero, List.set_cons_succ]
                      refine wpAnyH_ready (rs := [18]) (by kernel_rfl) (by simp) ?_
                      refine AllReadyH.cons (List.getElem?_toArray.trans rfl) (fun K hK => ?_) AllReadyH.nil
                      go_simp
                      go_at_call 24
                      (with_reducible refine (HCh.out _ _ HE.out).mono ?_)
                      rintro e w9 ⟨rfl, hB⟩
                      refine hK.out _ _ ⟨hB.m, hB.b.c⟩ (fun hHeld => ?_)
                      clear hK K
                      replace HE := Lib.hid hB
                      clear hB
                      try simp only [Act.put, List.setIfInBounds_toArray, List.set_cons_zero, List.set_cons_succ]
                      refine wpAnyH_ready (rs := [19]) (by kernel_rfl) (by simp) ?_
                      refine AllReadyH.cons (List.getElem?_toArray.trans rfl) (fun K hK => ?_) AllReadyH.nil
                      go_simp
                      go_at_call 14
                      (with_reducible refine (HLd.out _ HE.out).mono ?_)
                      rintro e w9 ⟨rfl, hB⟩
                      refine hK.out _ _ ⟨hB.m, hB.b.c⟩ (fun hHeld => ?_)
                      clear hK K
                      replace HE := Lib.hid hB
                      clear hB
                      try simp only [Act.put, List.setIfInBounds_toArray, List.set_cons_zero, List.set_cons_succ]
                      refine wpAnyH_take (i := 20) (v := ?_) (List.getElem?_toArray.trans rfl) (by kernel_rfl) (by kernel_rfl) (by kernel_rfl) (fun _ _ _ h => h) (Or.inl ⟨by rfl, ?_⟩) hHeld ?_
                      rotate_left
                      · intro w' hSw; go_simp; try with_reducible rfl
                      try simp only [Act.put, List.setIfInBounds_toArray, List.set_cons_zero, List.set_cons_succ]
                      refine wpAnyH_take (i := 21) (v := ?_) (List.getElem?_toArray.trans rfl) (by kernel_rfl) (by kernel_rfl) (by kernel_rfl) (fun _ _ _ h => h) (Or.inl ⟨by rfl, ?_⟩) hHeld ?_
                      rotate_left
                      · intro w' hSw; go_simp; try with_reducible rfl
                      try simp only [Act.put, List.setIfInBounds_toArray, List.set_cons_zero, List.set_cons_succ]
                      refine wpAnyH_done (by kernel_rfl) ?_ _
                      refine NoPanic.normal ?_
                      refine HA.out _ _ ?_
                      clear HA K7
                      go_wp2
                      go_roundw
                      case rel => exact ⟨i + 1, by omega, by go_num, HE⟩
                      case measure => simp [intOf]; omega
                    · rw [if_neg hdb] at hat
                      have HCT := Lib.hid (hct (by simpa using hdb))
                      have HAT := Lib.hid hat
                      clear hat hct hdb
                      go_wp2
                      rename_i K7 ha7
                      have HA := Lib.hid ha7
                      clear ha7
                      refine wp_region_noPanic ?_
                      refine wp_region_held_drew (S := fun w' => MapN w' mb n D ∧ Blk w' cl 48 (textsC C).toArray) (by kernel_rfl) (⟨HE.out.m.keep0 (gb_drew _ _), HE.out.b.c.keep0 (gb_drew _ _)⟩) (fun hHeld => ?_)
                      replace HE := Lib.hid (HE.out.keep0 (gb_drew _ _))
                      refine wpAnyH_take (i := 0) (v := ?_) (List.getElem?_toArray.trans rfl) (by kernel_rfl) (by kernel_rfl) (by kernel_rfl) (fun _ _ _ h => h) (Or.inl ⟨by rfl, ?_⟩) hHeld ?_
                      rotate_left
                      · intro w' hSw; go_simp; try with_reducible rfl
                      try simp only [Act.put, List.setIfInBounds_toArray, List.set_cons_zero, List.set_cons_succ]
                      refine wpAnyH_take (i := 1) (v := ?_) (List.getElem?_toArray.trans rfl) (by kernel_rfl) (by kernel_rfl) (by kernel_rfl) (fun _ _ _ h => h) (Or.inl ⟨by rfl, ?_⟩) hHeld ?_
                      rotate_left
                      · intro w' hSw; go_simp; try with_reducible rfl
                      try simp only [Act.put, List.setIfInBounds_toArray, List.set_cons_zero, List.set_cons_succ]
                      refine wpAnyH_take (i := 2) (v := ?_) (List.getElem?_toArray.trans rfl) (by kernel_rfl) (by kernel_rfl) (by kernel_rfl) (fun _ _ _ h => h) (Or.inl ⟨by rfl, ?_⟩) hHeld ?_
                      rotate_left
                      · intro w' hSw; have cx := look_int (show MapN w' mb n D from hSw.1) (i : Nat) (by omega) 0 HAT.out; go_simp; try with_reducible rfl
                      try simp only [Act.put, List.setIfInBounds_toArray, List.set_cons_zero, List.set_cons_succ]
                      refine wpAnyH_take (i := 3) (v := ?_) (List.getElem?_toArray.trans rfl) (by kernel_rfl) (by kernel_rfl) (by kernel_rfl) (fun _ _ _ h => h) (Or.inl ⟨by rfl, ?_⟩) hHeld ?_
                      rotate_left
                      · intro w' hSw; go_simp; try with_reducible rfl
                      try simp only [Act.put, List.setIfInBounds_toArray, List.set_cons_zero, List.set_cons_succ]
                      refine wpAnyH_take (i := 4) (v := ?_) (List.getElem?_toArray.trans rfl) (by kernel_rfl) (by kernel_rfl) (by kernel_rfl) (fun _ _ _ h => h) (Or.inl ⟨by rfl, ?_⟩) hHeld ?_
                      rotate_left
                      · intro w' hSw; go_simp; try with_reducible rfl
                      try simp only [Act.put, List.setIfInBounds_toArray, List.set_cons_zero, List.set_cons_succ]
                      refine wpAnyH_take (i := 5) (v := ?_) (List.getElem?_toArray.trans rfl) (by kernel_rfl) (by kernel_rfl) (by kernel_rfl) (fun _ _ _ h => h) (Or.inl ⟨by rfl, ?_⟩) hHeld ?_
                      rotate_left
                      · intro w' hSw; go_simp; try with_reducible rfl
                      try simp only [Act.put, List.setIfInBounds_toArray, List.set_cons_zero, List.set_cons_succ]
                      refine wpAnyH_take (i := 6) (v := ?_) (List.getElem?_toArray.trans rfl) (by kernel_rfl) (by kernel_rfl) (by kernel_rfl) (fun _ _ _ h => h) (Or.inl ⟨by rfl, ?_⟩) hHeld ?_
                      rotate_left
                      · intro w' hSw; go_simp; try with_reducible rfl
                      try simp only [Act.put, List.setIfInBounds_toArray, List.set_cons_zero, List.set_cons_succ]
                      refine wpAnyH_take (i := 8) (v := ?_) (List.getElem?_toArray.trans rfl) (by kernel_rfl) (by kernel_rfl) (by kernel_rfl) (fun _ _ _ h => h) (Or.inl ⟨by rfl, ?_⟩) hHeld ?_
                      rotate_left
                      · intro w' hSw; go_simp; try with_reducible rfl
                      try simp only [Act.put, List.setIfInBounds_toArray, List.set_cons_zero, List.set_cons_succ]
                      refine wpAnyH_take (i := 9) (v := ?_) (List.getElem?_toArray.trans rfl) (by kernel_rfl) (by kernel_rfl) (by kernel_rfl) (fun _ _ _ h => h) (Or.inl ⟨by rfl, ?_⟩) hHeld ?_
                      rotate_left
                      · intro w' hSw; go_simp; try with_reducible rfl
                      try simp only [Act.put, List.setIfInBounds_toArray, List.set_cons_zero, List.set_cons_succ]
                      refine wpAnyH_take (i := 10) (v := ?_) (List.getElem?_toArray.trans rfl) (by kernel_rfl) (by kernel_rfl) (by kernel_rfl) (fun _ _ _ h => h) (Or.inl ⟨by rfl, ?_⟩) hHeld ?_
                      rotate_left
                      · intro w' hSw; have cx := text_cell (show Blk w' cl 48 (textsC C).toArray from hSw.2) HL8.out hi8 HCT.out; go_simp; try with_reducible rfl
                      try simp only [Act.put, List.setIfInBounds_toArray, List.set_cons_zero, List.set_cons_succ]
                      refine wpAnyH_ready (rs := [7]) (by kernel_rfl) (by simp) ?_
                      refine AllReadyH.cons (List.getElem?_toArray.trans rfl) (fun K hK => ?_) AllReadyH.nil
                      go_simp
                      go_at_call 24
                      (with_reducible refine (HCh.out _ _ HE.out).mono ?_)
                      rintro e w9 ⟨rfl, hB⟩
                      refine hK.out _ _ ⟨hB.m, hB.b.c⟩ (fun hHeld => ?_)
                      clear hK K
                      replace HE := Lib.hid hB
                      clear hB
                      try simp only [Act.put, List.setIfInBounds_toArray, List.set_cons_zero, List.set_cons_succ]
                      refine wpAnyH_take (i := 11) (v := ?_) (List.getElem?_toArray.trans rfl) (by kernel_rfl) (by kernel_rfl) (by kernel_rfl) (fun _ _ _ h => h) (Or.inl ⟨by rfl, ?_⟩) hHeld ?_
                      rotate_left
                      · intro w' hSw; go_simp; try with_reducible rfl
                      try simp only [Act.put, List.setIfInBounds_toArray, List.set_cons_zero, List.set_cons_succ]
                      refine wpAnyH_take (i := 12) (v := ?_) (List.getElem?_toArray.trans rfl) (by kernel_rfl) (by kernel_rfl) (by kernel_rfl) (fun _ _ _ h => h) (Or.inl ⟨by rfl, ?_⟩) hHeld ?_
                      rotate_left
                      · intro w' hSw; go_simp; try with_reducible rfl
                      try simp only [Act.put, List.setIfInBounds_toArray, List.set_cons_zero, List.set_cons_succ]
                      refine wpAnyH_take (i := 13) (v := ?_) (List.getElem?_toArray.trans rfl) (by kernel_rfl) (by kernel_rfl) (by kernel_rfl) (fun _ _ _ h => h) (Or.inl ⟨by rfl, ?_⟩) hHeld ?_
                      rotate_left
                      · intro w' hSw; go_simp; try with_reducible rfl
                      try simp only [Act.put, List.setIfInBounds_toArray, List.set_cons_zero, List.set_cons_succ]
                      refine wpAnyH_take (i := 14) (v := ?_) (List.getElem?_toArray.trans rfl) (by kernel_rfl) (by kernel_rfl) (by kernel_rfl) (fun _ _ _ h => h) (Or.inl ⟨by rfl, ?_⟩) hHeld ?_
                      rotate_left
                      · intro w' hSw; go_simp; try with_reducible rfl
                      try simp only [Act.put, List.setIfInBounds_toArray, List.set_cons_zero, List.set_cons_succ]
                      refine wpAnyH_take (i := 15) (v := ?_) (List.getElem?_toArray.trans rfl) (by kernel_rfl) (by kernel_rfl) (by kernel_rfl) (fun _ _ _ h => h) (Or.inl ⟨by rfl, ?_⟩) hHeld ?_
                      rotate_left
                      · intro w' hSw; go_simp; try with_reducible rfl
                      try simp only [Act.put, List.setIfInBounds_toArray, List.set_cons_zero, List.set_cons_succ]
                      refine wpAnyH_take (i := 16) (v := ?_) (List.getElem?_toArray.trans rfl) (by kernel_rfl) (by kernel_rfl) (by kernel_rfl) (fun _ _ _ h => h) (Or.inl ⟨by rfl, ?_⟩) hHeld ?_
                      rotate_left
                      · intro w' hSw; go_simp; try with_reducible rfl
                      try simp only [Act.put, List.setIfInBounds_toArray, List.set_cons_zero, List.set_cons_succ]
                      refine wpAnyH_take (i := 17) (v := ?_) (List.getElem?_toArray.trans rfl) (by kernel_rfl) (by kernel_rfl) (by kernel_rfl) (fun _ _ _ h => h) (Or.inl ⟨by rfl, ?_⟩) hHeld ?_
                      rotate_left
                      · intro w' hSw; go_simp; try with_reducible rfl
                      try simp only [Act.put, List.setIfInBounds_toArray, List.set_cons_zero, List.set_cons_succ]
                      refine wpAnyH_ready (rs := [18]) (by kernel_rfl) (by simp) ?_
                      refine AllReadyH.cons (List.getElem?_toArray.trans rfl) (fun K hK => ?_) AllReadyH.nil
                      go_simp
                      go_at_call 24
                      (with_reducible refine (HCh.out _ _ HE.out).mono ?_)
                      rintro e w9 ⟨rfl, hB⟩
                      refine hK.out _ _ ⟨hB.m, hB.b.c⟩ (fun hHeld => ?_)
                      clear hK K
                      replace HE := Lib.hid hB
                      clear hB
                      try simp only [Act.put, List.setIfInBounds_toArray, List.set_cons_zero, List.set_cons_succ]
                      refine wpAnyH_ready (rs := [19]) (by kernel_rfl) (by simp) ?_
                      refine AllReadyH.cons (List.getElem?_toArray.trans rfl) (fun K hK => ?_) AllReadyH.nil
                      go_simp
                      go_at_call 14
                      (with_reducible refine (HLd.out _ HE.out).mono ?_)
                      rintro e w9 ⟨rfl, hB⟩
                      refine hK.out _ _ ⟨hB.m, hB.b.c⟩ (fun hHeld => ?_)
                      clear hK K
                      replace HE := Lib.hid hB
                      clear hB
                      try simp only [Act.put, List.setIfInBounds_toArray, List.set_cons_zero, List.set_cons_succ]
                      refine wpAnyH_take (i := 20) (v := ?_) (List.getElem?_toArray.trans rfl) (by kernel_rfl) (by kernel_rfl) (by kernel_rfl) (fun _ _ _ h => h) (Or.inl ⟨by rfl, ?_⟩) hHeld ?_
                      rotate_left
                      · intro w' hSw; go_simp; try with_reducible rfl
                      try simp only [Act.put, List.setIfInBounds_toArray, List.set_cons_zero, List.set_cons_succ]
                      refine wpAnyH_take (i := 21) (v := ?_) (List.getElem?_toArray.trans rfl) (by kernel_rfl) (by kernel_rfl) (by kernel_rfl) (fun _ _ _ h => h) (Or.inl ⟨by rfl, ?_⟩) hHeld ?_
                      rotate_left
                      · intro w' hSw; go_simp; try with_reducible rfl
                      try simp only [Act.put, List.setIfInBounds_toArray, List.set_cons_zero, List.set_cons_succ]
                      refine wpAnyH_done (by kernel_rfl) ?_ _
                      refine NoPanic.normal ?_
                      refine HA.out _ _ ?_
                      clear HA K7
                      go_wp2
                      go_roundw
                      case rel => exact ⟨i + 1, by omega, by go_num, HE⟩
                      case measure => simp [intOf]; omega
                  · have hi9 : i = 8 := by omega
                    subst hi9
                    have hE8 := HE.out
                    rw [uF_all hE8.b.ql] at hE8
                    replace HE := Lib.hid hE8
                    clear hE8
                    have hi88 : ((8 : Nat) : Int) = 8 := rfl
                    rw [hi88]
                    clear hi88 hi hi8
                    go_wp2
                    go_loopw [19] (fun v19 wr => ∃ (k : Nat) (so : TB), k ≤ 960 ∧ v19 = .int .i64 ((k : Int) + 1) ∧ so.P = oF s.P k ∧ Hid (Bb w p st cl mb o u s so ⟨s.P, offs 8⟩ C n D wr)) (fun v19 _ => 961 - (intOf v19).toNat)
                    case atStart => exact ⟨0, s, by omega, rfl, (oF_zero s.P).symm, HE⟩
                    case round =>
                      obtain ⟨q, so, hq, rfl, hoP, HF⟩ := hrel
                      clear HE
                      have HE := HF
                      clear HF
                      by_cases hq9 : q < 960
                      · have hqi : (q : Int) + 1 ≤ 960 := by omega
                        have hto : ((q : Int) + 1).toNat = q + 1 := by omega
                        have hb1 : (0 : Int) ≤ (q : Int) + 1 := by omega
                        have hb2 : (q : Int) + 1 < 961 := by omega
                        go_wp2_with (go_at_call 10; (with_reducible refine (e_drop q hq9 hoP h0 HE.out).mono ?_); rintro e w9 ⟨c9, s9, rfl, hP9, hB⟩; replace HE := Lib.hid hB; clear hB)
                        have HGp := Lib.hid (fun (W : World) (h : Bb w p st cl mb o u s s9 ⟨s.P, offs 8⟩ C n D W) => e_getP q hq9 h)
                        have HGu := Lib.hid (fun (W : World) (h : Bb w p st cl mb o u s s9 ⟨s.P, offs 8⟩ C n D W) => e_getS q hq9 h)
                        have HGo := Lib.hid (fun (W : World) (h : Bb w p st cl mb o u s s9 ⟨s.P, offs 8⟩ C n D W) => e_get0 q hq9 hP9 h)
                        have HST := Lib.hid (fun (W : World) (h : Blk W st 47 (intsC (0 :: s.P)).toArray) => stand_cell h HE.out.b.ql hq9)
                        generalize s.P.getD q 0 = gp at HGp HGu HST
                        have hgg : ((gp : Int) != (gp : Int)) = false := by simp
                        rename_i K7 ha7
                        have HA := Lib.hid ha7
                        clear ha7
                        refine wp_region_noPanic ?_
                        refine wp_region_held_drew (S := fun w' => Blk w' st 47 (intsC (0 :: s.P)).toArray) (by kernel_rfl) (HE.out.b.a.keep0 (gb_drew _ _)) (fun hHeld => ?_)
                        replace HE := Lib.hid (HE.out.keep0 (gb_drew _ _))
                        refine wpAnyH_take (i := 0) (v := ?_) (List.getElem?_toArray.trans rfl) (by kernel_rfl) (by kernel_rfl) (by kernel_rfl) (fun _ _ _ h => h) (Or.inl ⟨by rfl, ?_⟩) hHeld ?_
                        rotate_left
                        · intro w' hSw; go_simp; try with_reducible rfl
                        try simp only [Act.put, List.setIfInBounds_toArray, List.set_cons_zero, List.set_cons_succ]
                        refine wpAnyH_take (i := 1) (v := ?_) (List.getElem?_toArray.trans rfl) (by kernel_rfl) (by kernel_rfl) (by kernel_rfl) (fun _ _ _ h => h) (Or.inl ⟨by rfl, ?_⟩) hHeld ?_
                        rotate_left
                        · intro w' hSw; go_simp; try with_reducible rfl
                        try simp only [Act.put, List.setIfInBounds_toArray, List.set_cons_zero, List.set_cons_succ]
                        refine wpAnyH_take (i := 3) (v := ?_) (List.getElem?_toArray.trans rfl) (by kernel_rfl) (by kernel_rfl) (by kernel_rfl) (fun _ _ _ h => h) (Or.inl ⟨by rfl, ?_⟩) hHeld ?_
                        rotate_left
                        · intro w' hSw; go_simp; try with_reducible rfl
                        try simp only [Act.put, List.setIfInBounds_toArray, List.set_cons_zero, List.set_cons_succ]
                        refine wpAnyH_take (i := 4) (v := ?_) (List.getElem?_toArray.trans rfl) (by kernel_rfl) (by kernel_rfl) (by kernel_rfl) (fun _ _ _ h => h) (Or.inl ⟨by rfl, ?_⟩) hHeld ?_
                        rotate_left
                        · intro w' hSw; go_simp; try with_reducible rfl
                        try simp only [Act.put, List.setIfInBounds_toArray, List.set_cons_zero, List.set_cons_succ]
                        refine wpAnyH_take (i := 5) (v := ?_) (List.getElem?_toArray.trans rfl) (by kernel_rfl) (by kernel_rfl) (by kernel_rfl) (fun _ _ _ h => h) (Or.inl ⟨by rfl, ?_⟩) hHeld ?_
                        rotate_left
                        · intro w' hSw; have cx := HST.out w' (show Blk w' st 47 (intsC (0 :: s.P)).toArray from hSw); go_simp; try with_reducible rfl
                        try simp only [Act.put, List.setIfInBounds_toArray, List.set_cons_zero, List.set_cons_succ]
                        refine wpAnyH_ready (rs := [2]) (by kernel_rfl) (by simp) ?_
                        refine AllReadyH.cons (List.getElem?_toArray.trans rfl) (fun K hK => ?_) AllReadyH.nil
                        go_simp
                        go_at_call 20
                        (with_reducible refine (HGp.out _ HE.out).mono ?_)
                        rintro e w9 ⟨rfl, rfl⟩
                        refine hK.out _ _ hHeld (fun hHeld => ?_)
                        clear hK K
                        try simp only [Act.put, List.setIfInBounds_toArray, List.set_cons_zero, List.set_cons_succ]
                        refine wpAnyH_take (i := 6) (v := ?_) (List.getElem?_toArray.trans rfl) (by kernel_rfl) (by kernel_rfl) (by kernel_rfl) (fun _ _ _ h => h) (Or.inl ⟨by rfl, ?_⟩) hHeld ?_
                        rotate_left
                        · intro w' hSw; go_simp; try with_reducible rfl
                        try simp only [Act.put, List.setIfInBounds_toArray, List.set_cons_zero, List.set_cons_succ]
                        refine wpAnyH_take (i := 7) (v := ?_) (List.getElem?_toArray.trans rfl) (by kernel_rfl) (by kernel_rfl) (by kernel_rfl) (fun _ _ _ h => h) (Or.inl ⟨by rfl, ?_⟩) hHeld ?_
                        rotate_left
                        · intro w' hSw; go_simp; try with_reducible rfl
                        try simp only [Act.put, List.setIfInBounds_toArray, List.set_cons_zero, List.set_cons_succ]
                        refine wpAnyH_take (i := 8) (v := ?_) (List.getElem?_toArray.trans rfl) (by kernel_rfl) (by kernel_rfl) (by kernel_rfl) (fun _ _ _ h => h) (Or.inl ⟨by rfl, ?_⟩) hHeld ?_
                        rotate_left
                        · intro w' hSw; go_simp; try with_reducible rfl
                        try simp only [Act.put, List.setIfInBounds_toArray, List.set_cons_zero, List.set_cons_succ]
                        refine wpAnyH_take (i := 9) (v := ?_) (List.getElem?_toArray.trans rfl) (by kernel_rfl) (by kernel_rfl) (by kernel_rfl) (fun _ _ _ h => h) (Or.inl ⟨by rfl, ?_⟩) hHeld ?_
                        rotate_left
                        · intro w' hSw; go_simp; try with_reducible rfl
                        try simp only [Act.put, List.setIfInBounds_toArray, List.set_cons_zero, List.set_cons_succ]
                        refine wpAnyH_take (i := 11) (v := ?_) (List.getElem?_toArray.trans rfl) (by kernel_rfl) (by kernel_rfl) (by kernel_rfl) (fun _ _ _ h => h) (Or.inl ⟨by rfl, ?_⟩) hHeld ?_
                        rotate_left
                        · intro w' hSw; go_simp; try with_reducible rfl
                        try simp only [Act.put, List.setIfInBounds_toArray, List.set_cons_zero, List.set_cons_succ]
                        refine wpAnyH_take (i := 12) (v := ?_) (List.getElem?_toArray.trans rfl) (by kernel_rfl) (by kernel_rfl) (by kernel_rfl) (fun _ _ _ h => h) (Or.inl ⟨by rfl, ?_⟩) hHeld ?_
                        rotate_left
                        · intro w' hSw; go_simp; try with_reducible rfl
                        try simp only [Act.put, List.setIfInBounds_toArray, List.set_cons_zero, List.set_cons_succ]
                        refine wpAnyH_take (i := 13) (v := ?_) (List.getElem?_toArray.trans rfl) (by kernel_rfl) (by kernel_rfl) (by kernel_rfl) (fun _ _ _ h => h) (Or.inl ⟨by rfl, ?_⟩) hHeld ?_
                        rotate_left
                        · intro w' hSw; have cx := HST.out w' (show Blk w' st 47 (intsC (0 :: s.P)).toArray from hSw); go_simp; try with_reducible rfl
                        try simp only [Act.put, List.setIfInBounds_toArray, List.set_cons_zero, List.set_cons_succ]
                        refine wpAnyH_ready (rs := [10]) (by kernel_rfl) (by simp) ?_
                        refine AllReadyH.cons (List.getElem?_toArray.trans rfl) (fun K hK => ?_) AllReadyH.nil
                        go_simp
                        go_at_call 20
                        (with_reducible refine (HGu.out _ HE.out).mono ?_)
                        rintro e w9 ⟨rfl, rfl⟩
                        refine hK.out _ _ hHeld (fun hHeld => ?_)
                        clear hK K
                        try simp only [Act.put, List.setIfInBounds_toArray, List.set_cons_zero, List.set_cons_succ]
                        refine wpAnyH_take (i := 14) (v := ?_) (List.getElem?_toArray.trans rfl) (by kernel_rfl) (by kernel_rfl) (by kernel_rfl) (fun _ _ _ h => h) (Or.inl ⟨by rfl, ?_⟩) hHeld ?_
                        rotate_left
                        · intro w' hSw; go_simp; try with_reducible rfl
                        try simp only [Act.put, List.setIfInBounds_toArray, List.set_cons_zero, List.set_cons_succ]
                        refine wpAnyH_take (i := 15) (v := ?_) (List.getElem?_toArray.trans rfl) (by kernel_rfl) (by kernel_rfl) (by kernel_rfl) (fun _ _ _ h => h) (Or.inl ⟨by rfl, ?_⟩) hHeld ?_
                        rotate_left
                        · intro w' hSw; go_simp; try with_reducible rfl
                        try simp only [Act.put, List.setIfInBounds_toArray, List.set_cons_zero, List.set_cons_succ]
                        refine wpAnyH_take (i := 16) (v := ?_) (List.getElem?_toArray.trans rfl) (by kernel_rfl) (by kernel_rfl) (by kernel_rfl) (fun _ _ _ h => h) (Or.inl ⟨by rfl, ?_⟩) hHeld ?_
                        rotate_left
                        · intro w' hSw; go_simp; try with_reducible rfl
                        try simp only [Act.put, List.setIfInBounds_toArray, List.set_cons_zero, List.set_cons_succ]
                        refine wpAnyH_take (i := 17) (v := ?_) (List.getElem?_toArray.trans rfl) (by kernel_rfl) (by kernel_rfl) (by kernel_rfl) (fun _ _ _ h => h) (Or.inl ⟨by rfl, ?_⟩) hHeld ?_
                        rotate_left
                        · intro w' hSw; go_simp; try with_reducible rfl
                        try simp only [Act.put, List.setIfInBounds_toArray, List.set_cons_zero, List.set_cons_succ]
                        refine wpAnyH_take (i := 18) (v := ?_) (List.getElem?_toArray.trans rfl) (by kernel_rfl) (by kernel_rfl) (by kernel_rfl) (fun _ _ _ h => h) (Or.inl ⟨by rfl, ?_⟩) hHeld ?_
                        rotate_left
                        · intro w' hSw; go_simp; try with_reducible rfl
                        try simp only [Act.put, List.setIfInBounds_toArray, List.set_cons_zero, List.set_cons_succ]
                        refine wpAnyH_ready (rs := [19]) (by kernel_rfl) (by simp) ?_
                        refine AllReadyH.cons (List.getElem?_toArray.trans rfl) (fun K hK => ?_) AllReadyH.nil
                        go_simp
                        go_at_call 20
                        (with_reducible refine (HGo.out _ HE.out).mono ?_)
                        rintro e w9 ⟨rfl, rfl⟩
                        refine hK.out _ _ hHeld (fun hHeld => ?_)
                        clear hK K
                        try simp only [Act.put, List.setIfInBounds_toArray, List.set_cons_zero, List.set_cons_succ]
                        refine wpAnyH_take (i := 20) (v := ?_) (List.getElem?_toArray.trans rfl) (by kernel_rfl) (by kernel_rfl) (by kernel_rfl) (fun _ _ _ h => h) (Or.inl ⟨by rfl, ?_⟩) hHeld ?_
                        rotate_left
                        · intro w' hSw; go_simp; try with_reducible rfl
                        try simp only [Act.put, List.setIfInBounds_toArray, List.set_cons_zero, List.set_cons_succ]
                        refine wpAnyH_take (i := 21) (v := ?_) (List.getElem?_toArray.trans rfl) (by kernel_rfl) (by kernel_rfl) (by kernel_rfl) (fun _ _ _ h => h) (Or.inl ⟨by rfl, ?_⟩) hHeld ?_
                        rotate_left
                        · intro w' hSw; go_simp; try with_reducible rfl
                        try simp only [Act.put, List.setIfInBounds_toArray, List.set_cons_zero, List.set_cons_succ]
                        refine wpAnyH_done (by kernel_rfl) ?_ _
                        refine NoPanic.normal ?_
                        refine HA.out _ _ ?_
                        clear HA K7
                        go_wp2
                        go_roundw
                        case rel => exact ⟨q + 1, s9, by omega, by go_num, hP9, HE⟩
                        case measure => simp [intOf]; omega
                      · have hq0 : q = 960 := by omega
                        subst hq0
                        have hso : secsF so.P = [] := by rw [hoP, oF_all HE.out.b.ql]; exact secs_nots 960
                        obtain ⟨M, hM9⟩ : ∃ M, (secsF s.P).length = M := ⟨_, rfl⟩
                        have hMM : ((M : Int) == (M : Int)) = true := by simp
                        have hql : ¬ ((960 : Int) + 1 ≤ 960) := by omega
                        have h961 : ((960 : Nat) : Int) = 960 := rfl
                        rw [h961]
                        go_wp2_with (first
                          | (go_at_call 25; (with_reducible refine (e_dirtyU HE.out).mono ?_); rintro e w9 ⟨ax, cx, rfl, hB⟩; replace HE := Lib.hid hB; clear hB)
                          | (go_at_call 26; (with_reducible refine (e_secO hso HE.out).mono ?_); rintro e w9 ⟨ax, cx, rfl, hB⟩; replace HE := Lib.hid hB; clear hB)
                          | (go_at_call 26; (with_reducible refine (e_secP hM9 HE.out).mono ?_); rintro e w9 ⟨ax, cx, rfl, hB⟩; replace HE := Lib.hid hB; clear hB)
                          | (go_at_call 26; (with_reducible refine (e_secU hM9 HE.out).mono ?_); rintro e w9 ⟨ax, cx, rfl, hB⟩; replace HE := Lib.hid hB; clear hB))
                        go_ret
                        exact ⟨rfl, HE.out.b.g⟩
end Go.Proofs.YtfkkdhgggocgjaaDoor

