/-
  Put of a transaction that is over, or none; over this seat's translation; conditions: those that each law states.
-/
import Derived.Test.YtliiooldlooagaaGreatDoorWOz
set_option linter.unusedSimpArgs false
set_option linter.unusedVariables false
namespace Go.Proofs.YtliiooldlooagaaGreatDoor.O12
open Go.RowKit Go.Maps Go.Shelf J10
attribute [local go_sem] Oper.semAt_some
structure PG (w : World) (t : Option Addr) (s : ByteArray) (c : Int) (W : World) : Prop where
  bT : Blk W w.heap.size 26 #[.pointer t]
  bF : Blk W (w.heap.size + 1) 3 #[.int .i64 0]
  bE : Blk W (w.heap.size + 2) 33 #[.int .i64 c]
  bM : Blk W (w.heap.size + 3) 40 #[.slice none 0 0]
  bP : Blk W (w.heap.size + 4) 3 #[.int .i64 0]
  bS : Blk W (w.heap.size + 5) 9 #[.string s]
  kp : D5.Kp (fun i => w.heap.size ≤ i) w W
theorem PG.own {w : World} {t : Option Addr} {s : ByteArray} {c : Int} {W W' : World} {row : Option Nat} (h : PG w t s c W) (g : W.grownBy W' row) (hr : ∀ r, row = some r → w.heap.size + 6 ≤ r) : PG w t s c W' := by
  have kb : ∀ {k t vs}, Blk W k t vs → k < w.heap.size + 6 → Blk W' k t vs := fun h hk => h.keep g (fun e => by have := hr _ e.symm; omega)
  exact ⟨kb h.bT (by omega), kb h.bF (by omega), kb h.bE (by omega), kb h.bM (by omega), kb h.bP (by omega), kb h.bS (by omega), kp_own h.kp g hr (by omega)⟩
set_option maxRecDepth 100000 in
set_option maxHeartbeats 8000000 in
theorem put_gone {t : Option Addr} {c : Int} {w : World} (h : Gone t c w) (hc : c = 1 ∨ c = 22) {s : ByteArray} (hs1 : 1 ≤ s.size) (hs2 : s.size ≤ 2000) :
    Calls Tryz.prog 9 #[.pointer t, .string s] w fun e w' => e = .returned (.tuple #[.int .i64 0, .int .i64 c]) ∧ w.grownBy w' none := by
  have H0 := Lib.hid h
  have hne := not_empty (s := s) (by omega)
  have hlo : ((2000 : Int) < (s.size : Int)) = False := by simp; omega
  have hm9 := need_le hs2
  have hcn : (c != 0) = true := by rcases hc with rfl | rfl <;> rfl
  have hc0 : c ≠ 0 := by rcases hc with rfl | rfl <;> decide
  clear h hc
  refine (callsIn_wide (n := 6)).1 ?_
  refine callsIn_of_wp_marks Tryz.func9 rfl trivial ?_ rfl
  simp only [Tryz.ntmps9, List.size_toArray, List.length_cons, List.length_nil, Nat.reduceAdd, Nat.reduceSub, Array.replicate_succ, Array.replicate_zero, List.push_toArray, List.append_toArray, List.nil_append, List.cons_append]
  gi_wp2_with (refine ⟨trivial, ?_⟩; gi_at_call 26; (with_reducible refine (callsIn_wide.2 (pieces_any s _)).mono ?_); rintro e w' ⟨rfl, rfl⟩)
  simp only [Nat.add_assoc, Nat.reduceAdd]
  have bT := (((((Blk.mk w 26 #[.pointer t]).keep0 (gb_alloc _ (.cells #[.int .i64 0] 3) none)).keep0 (gb_alloc _ (.cells #[.int .i64 0] 33) none)).keep0 (gb_alloc _ (.cells #[.slice none 0 0] 40) none)).keep0 (gb_alloc _ (.cells #[.int .i64 0] 3) none)).keep0 (gb_alloc _ (.cells #[.string s] 9) none)
  have bF := ((((Blk.mk (w.alloc (.cells #[.pointer t] 26)) 3 #[.int .i64 0]).keep0 (gb_alloc _ (.cells #[.int .i64 0] 33) none)).keep0 (gb_alloc _ (.cells #[.slice none 0 0] 40) none)).keep0 (gb_alloc _ (.cells #[.int .i64 0] 3) none)).keep0 (gb_alloc _ (.cells #[.string s] 9) none)
  have bE := (((Blk.mk ((w.alloc (.cells #[.pointer t] 26)).alloc (.cells #[.int .i64 0] 3)) 33 #[.int .i64 0]).keep0 (gb_alloc _ (.cells #[.slice none 0 0] 40) none)).keep0 (gb_alloc _ (.cells #[.int .i64 0] 3) none)).keep0 (gb_alloc _ (.cells #[.string s] 9) none)
  have bM := ((Blk.mk (((w.alloc (.cells #[.pointer t] 26)).alloc (.cells #[.int .i64 0] 3)).alloc (.cells #[.int .i64 0] 33)) 40 #[.slice none 0 0]).keep0 (gb_alloc _ (.cells #[.int .i64 0] 3) none)).keep0 (gb_alloc _ (.cells #[.string s] 9) none)
  have bP := (Blk.mk ((((w.alloc (.cells #[.pointer t] 26)).alloc (.cells #[.int .i64 0] 3)).alloc (.cells #[.int .i64 0] 33)).alloc (.cells #[.slice none 0 0] 40)) 3 #[.int .i64 0]).keep0 (gb_alloc _ (.cells #[.string s] 9) none)
  have bS := Blk.mk (((((w.alloc (.cells #[.pointer t] 26)).alloc (.cells #[.int .i64 0] 3)).alloc (.cells #[.int .i64 0] 33)).alloc (.cells #[.slice none 0 0] 40)).alloc (.cells #[.int .i64 0] 3)) 9 #[.string s]
  have gg : w.grownBy ((((((w.alloc (.cells #[.pointer t] 26)).alloc (.cells #[.int .i64 0] 3)).alloc (.cells #[.int .i64 0] 33)).alloc (.cells #[.slice none 0 0] 40)).alloc (.cells #[.int .i64 0] 3)).alloc (.cells #[.string s] 9)) none := gb_trans (gb_trans (gb_trans (gb_trans (gb_trans (gb_alloc _ _ _) (gb_alloc _ _ _)) (gb_alloc _ _ _)) (gb_alloc _ _ _)) (gb_alloc _ _ _)) (gb_alloc _ _ _)
  have hsz : ((((((w.alloc (.cells #[.pointer t] 26)).alloc (.cells #[.int .i64 0] 3)).alloc (.cells #[.int .i64 0] 33)).alloc (.cells #[.slice none 0 0] 40)).alloc (.cells #[.int .i64 0] 3)).alloc (.cells #[.string s] 9)).heap.size = w.heap.size + 6 := by simp
  simp only [World.size_alloc, Nat.add_assoc, Nat.reduceAdd] at bT bF bE bM bP bS
  generalize ((((((w.alloc (.cells #[.pointer t] 26)).alloc (.cells #[.int .i64 0] 3)).alloc (.cells #[.int .i64 0] 33)).alloc (.cells #[.slice none 0 0] 40)).alloc (.cells #[.int .i64 0] 3)).alloc (.cells #[.string s] 9)) = W0 at bT bF bE bM bP bS gg hsz ⊢
  have hI0 : PG w t s 0 W0 := ⟨bT, bF, bE, bM, bP, bS, D5.Kp.of0 gg⟩
  refine wpIn_rangeFunc_ownG (a₁ := ?fr) rfl (by omega) (gf := 52) (lb := #[.pointer (some ⟨w.heap.size + 5, 0, none⟩)]) rfl trivial (enters_of Tryz.func52 (by kernel_rfl) rfl)
    (pieces_stops _ (by omega) (w.heap.size + 5) s hs2 W0 (by omega) (bS.cell 0 rfl)) C7.same_t C7.same_b (Below.refl _ _) (fun _ => rfl)
    (fun pre W => pre = [] ∧ PG w t s 0 W) (fun cd pre W => cd = Code.ret ∧ PG w t s c W)
    (fun pre W W' row h g hr => ⟨h.1, h.2.own g (fun r e => by have := (hr r e).1; omega)⟩)
    (fun cd pre W W' row h g hr => ⟨h.1, h.2.own g (fun r e => by have := (hr r e).1; omega)⟩)
    ⟨rfl, hI0⟩ ?assign ?body ?done ?stop
  case assign =>
    intro l x W K hK
    gi_wp2
    exact hK
  case body =>
    rintro q pre x W ⟨hpre, hI⟩ hpl
    have hx := x.2
    have HN := Lib.hid (fun W1 (g : W.grownBy W1 none) => H0.out.nw W1 (hI.kp.step0 g) 2)
    have HBdy := Lib.hid (fun w => show Calls Tryz.prog 28 #[.agg #[.int .i64 0, .string x.1]] w _ from body_any 0 x.1 w (by omega) (by omega))
    obtain ⟨bd, hbd⟩ : ∃ bd, bodyB 0 x.1.data.toList = bd := ⟨_, rfl⟩
    rw [hbd] at HBdy
    have HI := Lib.hid hI
    have cT := hI.bT.cell 0 rfl
    have cP := hI.bP.cell 0 rfl
    clear hbd hI hpre
    gi_wp2
    refine wpIn_region_round (S := fun w' => w'.cell? ⟨w.heap.size, 0, none⟩ = some (.pointer t)) (by kernel_rfl) (by kernel_rfl) cT (fun hHeld => ?_) (by rintro ⟨_, _, h⟩; exact h)
    refine wpAnyH_take (i := 0) (v := ?_) (List.getElem?_toArray.trans rfl) (by kernel_rfl) (by kernel_rfl) (by kernel_rfl) (fun _ _ _ h => h) (Or.inl ⟨by rfl, ?_⟩) hHeld ?_
    rotate_left
    · intro w' hSw; go_simp; try with_reducible rfl
    try simp only [Act.put, List.setIfInBounds_toArray, List.set_cons_zero, List.set_cons_succ]
    refine wpAnyH_take (i := 2) (v := ?_) (List.getElem?_toArray.trans rfl) (by kernel_rfl) (by kernel_rfl) (by kernel_rfl) (fun _ _ _ h => h) (Or.inl ⟨by rfl, ?_⟩) hHeld ?_
    rotate_left
    · intro w' hSw; go_simp; try with_reducible rfl
    try simp only [Act.put, List.setIfInBounds_toArray, List.set_cons_zero, List.set_cons_succ]
    refine wpAnyH_ready (rs := [1]) (by kernel_rfl) (by simp) ?_
    refine AllReadyH.cons (List.getElem?_toArray.trans rfl) (fun K hK => ?_) AllReadyH.nil
    go_simp
    refine hK.out _ _ (hHeld) (fun hHeld => ?_)
    clear hK K
    try simp only [Act.put, List.setIfInBounds_toArray, List.set_cons_zero, List.set_cons_succ]
    refine wpAnyH_take (i := 3) (v := ?_) (List.getElem?_toArray.trans rfl) (by kernel_rfl) (by kernel_rfl) (by kernel_rfl) (fun _ _ _ h => h) (Or.inl ⟨by rfl, ?_⟩) hHeld ?_
    rotate_left
    · intro w' hSw; go_simp; try with_reducible rfl
    try simp only [Act.put, List.setIfInBounds_toArray, List.set_cons_zero, List.set_cons_succ]
    refine wpAnyH_ready (rs := [4]) (by kernel_rfl) (by simp) ?_
    refine AllReadyH.cons (List.getElem?_toArray.trans rfl) (fun K hK => ?_) AllReadyH.nil
    go_simp
    go_at_call 28
    (with_reducible refine (HBdy.out _).mono ?_)
    rintro e u2 ⟨rfl, gb1⟩
    refine hK.out _ _ ((HI.out.bT.keep0 (gb_trans (gb_drew W none) gb1)).cell 0 rfl) (fun hHeld => ?_)
    clear hK K
    try simp only [Act.put, List.setIfInBounds_toArray, List.set_cons_zero, List.set_cons_succ]
    refine wpAnyH_ready (rs := [5]) (by kernel_rfl) (by simp) ?_
    refine AllReadyH.cons (List.getElem?_toArray.trans rfl) (fun K hK => ?_) AllReadyH.nil
    go_simp
    go_at_call 27
    (with_reducible refine (HN.out _ (gb_trans (gb_drew W none) gb1) _).mono ?_)
    rintro e u3 ⟨rfl, rfl⟩
    refine hK.out _ _ ((HI.out.bT.keep0 (gb_trans (gb_drew W none) gb1)).cell 0 rfl) (fun hHeld => ?_)
    clear hK K
    try simp only [Act.put, List.setIfInBounds_toArray, List.set_cons_zero, List.set_cons_succ]
    refine wpAnyH_take (i := 6) (v := ?_) (List.getElem?_toArray.trans rfl) (by kernel_rfl) (by kernel_rfl) (by kernel_rfl) (fun _ _ _ h => h) (Or.inl ⟨by rfl, ?_⟩) hHeld ?_
    rotate_left
    · intro w' hSw; go_simp; try with_reducible rfl
    try simp only [Act.put, List.setIfInBounds_toArray, List.set_cons_zero, List.set_cons_succ]
    refine wpAnyH_take (i := 7) (v := ?_) (List.getElem?_toArray.trans rfl) (by kernel_rfl) (by kernel_rfl) (by kernel_rfl) (fun _ _ _ h => h) (Or.inl ⟨by rfl, ?_⟩) hHeld ?_
    rotate_left
    · intro w' hSw; go_simp; try with_reducible rfl
    try simp only [Act.put, List.setIfInBounds_toArray, List.set_cons_zero, List.set_cons_succ]
    refine wpAnyH_take (i := 8) (v := ?_) (List.getElem?_toArray.trans rfl) (by kernel_rfl) (by kernel_rfl) (by kernel_rfl) (fun _ _ _ h => h) (Or.inl ⟨by rfl, ?_⟩) hHeld ?_
    rotate_left
    · intro w' hSw; go_simp; try with_reducible rfl
    try simp only [Act.put, List.setIfInBounds_toArray, List.set_cons_zero, List.set_cons_succ]
    refine wpAnyH_ready (rs := [9]) (by kernel_rfl) (by simp) ?_
    refine AllReadyH.cons (List.getElem?_toArray.trans rfl) (fun K hK => ?_) AllReadyH.nil
    have bP2 := HI.out.bP.keep0 (gb_trans (gb_drew W none) gb1)
    have d0 := bP2.cell 0 rfl
    have f0 := bP2.free 0
    go_simp
    refine hK.out _ _ (((HI.out.bT.keep0 (gb_trans (gb_drew W none) gb1)).keep (gb_set _ _ _ _ _) (ne_some (by omega))).cell 0 rfl) (fun hHeld => ?_)
    clear hK K
    try simp only [Act.put, List.setIfInBounds_toArray, List.set_cons_zero, List.set_cons_succ]
    refine wpAnyH_ready (rs := [10]) (by kernel_rfl) (by simp) ?_
    refine AllReadyH.cons (List.getElem?_toArray.trans rfl) (fun K hK => ?_) AllReadyH.nil
    have bE2 := (HI.out.bE.keep0 (gb_trans (gb_drew W none) gb1)).keep (gb_set u2 (w.heap.size + 4) 0 none (.int .i64 0)) (ne_some (by omega))
    have d1 := bE2.cell 0 rfl
    have f1 := bE2.free 0
    go_simp
    refine hK.out _ _ ((((HI.out.bT.keep0 (gb_trans (gb_drew W none) gb1)).keep (gb_set _ _ _ _ _) (ne_some (by omega))).keep (gb_set _ _ _ _ _) (ne_some (by omega))).cell 0 rfl) (fun hHeld => ?_)
    clear hK K
    try simp only [Act.put, List.setIfInBounds_toArray, List.set_cons_zero, List.set_cons_succ]
    refine wpAnyH_done (by kernel_rfl) ?_ _
    refine NoPanic.normal ?_
    have g2 := gb_trans (gb_drew W none) gb1
    have gP := gb_set u2 (w.heap.size + 4) 0 none (.int .i64 0)
    have gE := gb_set (u2.setCell ⟨w.heap.size + 4, 0, none⟩ (.int .i64 0)) (w.heap.size + 2) 0 none (.int .i64 c)
    have kb : ∀ {k t vs}, Blk W k t vs → k ≠ w.heap.size + 4 → k ≠ w.heap.size + 2 → Blk ((u2.setCell ⟨w.heap.size + 4, 0, none⟩ (.int .i64 0)).setCell ⟨w.heap.size + 2, 0, none⟩ (.int .i64 c)) k t vs := fun h h1 h2 => ((h.keep0 g2).keep gP (ne_some h1)).keep gE (ne_some h2)
    have k23 : D5.Kp (fun i => w.heap.size ≤ i ∧ i < w.heap.size + 6) W ((u2.setCell ⟨w.heap.size + 4, 0, none⟩ (.int .i64 0)).setCell ⟨w.heap.size + 2, 0, none⟩ (.int .i64 c)) := ((D5.Kp.of0 g2).trans (D5.Kp.of gP (fun k e => by cases e; omega))).trans (D5.Kp.of gE (fun k e => by cases e; omega))
    have hP3 : PG w t s c ((u2.setCell ⟨w.heap.size + 4, 0, none⟩ (.int .i64 0)).setCell ⟨w.heap.size + 2, 0, none⟩ (.int .i64 c)) := ⟨kb HI.out.bT (by omega) (by omega), kb HI.out.bF (by omega) (by omega), bE2.set 0 (.int .i64 c), kb HI.out.bM (by omega) (by omega), (bP2.set 0 (.int .i64 0)).keep gE (ne_some (by omega)), kb HI.out.bS (by omega) (by omega), HI.out.kp.trans (k23.mono fun i hi => hi.1)⟩
    clear gP gE hHeld bE2 bP2 d0 f0 d1 f1 kb g2 gb1
    generalize (u2.setCell ⟨w.heap.size + 4, 0, none⟩ (.int .i64 0)).setCell ⟨w.heap.size + 2, 0, none⟩ (.int .i64 c) = u3 at *
    have dE := hP3.bE.cell 0 rfl
    have dF := hP3.bF.cell 0 rfl
    have fE := hP3.bE.free 0
    have fF := hP3.bF.free 0
    have HP3 := Lib.hid hP3
    have HK := Lib.hid k23
    clear hP3 k23
    gi_wp2
    refine wpIn_region_round (S := fun w' => w'.cell? ⟨w.heap.size + 2, 0, none⟩ = some (.int .i64 c)) (by kernel_rfl) (by kernel_rfl) dE (fun hHeld => ?_) (by rintro ⟨_, _, h⟩; exact h)
    refine wpAnyH_take (i := 0) (v := ?_) (List.getElem?_toArray.trans rfl) (by kernel_rfl) (by kernel_rfl) (by kernel_rfl) (fun _ _ _ h => h) (Or.inl ⟨by rfl, ?_⟩) hHeld ?_
    rotate_left
    · intro w' hSw; go_simp; try with_reducible rfl
    try simp only [Act.put, List.setIfInBounds_toArray, List.set_cons_zero, List.set_cons_succ]
    refine wpAnyH_ready (rs := [1]) (by kernel_rfl) (by simp) ?_
    refine AllReadyH.cons (List.getElem?_toArray.trans rfl) (fun K hK => ?_) AllReadyH.nil
    go_simp
    refine hK.out _ _ ((HP3.out.bE.keep (gb_set u3 (w.heap.size + 1) 0 none (.int .i64 0)) (ne_some (by omega))).cell 0 rfl) (fun hHeld => ?_)
    clear hK K
    try simp only [Act.put, List.setIfInBounds_toArray, List.set_cons_zero, List.set_cons_succ]
    refine wpAnyH_ready (rs := [2]) (by kernel_rfl) (by simp) ?_
    refine AllReadyH.cons (List.getElem?_toArray.trans rfl) (fun K hK => ?_) AllReadyH.nil
    have e0 := (HP3.out.bE.keep (gb_set u3 (w.heap.size + 1) 0 none (.int .i64 0)) (ne_some (by omega)))
    have e1 := e0.cell 0 rfl
    have e2 := e0.free 0
    go_simp
    refine hK.out _ _ ((e0.set 0 (.int .i64 c)).cell 0 rfl) (fun hHeld => ?_)
    clear hK K
    try simp only [Act.put, List.setIfInBounds_toArray, List.set_cons_zero, List.set_cons_succ]
    refine wpAnyH_done (by kernel_rfl) ?_ _
    refine NoPanic.normal ?_
    gi_wp2
    have gX := gb_set u3 (w.heap.size + 1) 0 none (.int .i64 0)
    have gY := gb_set (u3.setCell ⟨w.heap.size + 1, 0, none⟩ (.int .i64 0)) (w.heap.size + 2) 0 none (.int .i64 c)
    have gZ := gb_drew ((u3.setCell ⟨w.heap.size + 1, 0, none⟩ (.int .i64 0)).setCell ⟨w.heap.size + 2, 0, none⟩ (.int .i64 c)) none
    have kb : ∀ {k t vs}, Blk u3 k t vs → k ≠ w.heap.size + 1 → k ≠ w.heap.size + 2 → Blk ((u3.setCell ⟨w.heap.size + 1, 0, none⟩ (.int .i64 0)).setCell ⟨w.heap.size + 2, 0, none⟩ (.int .i64 c)).drew k t vs := fun h h1 h2 => ((h.keep gX (ne_some h1)).keep gY (ne_some h2)).keep0 gZ
    have k34 : D5.Kp (fun i => w.heap.size ≤ i ∧ i < w.heap.size + 6) u3 ((u3.setCell ⟨w.heap.size + 1, 0, none⟩ (.int .i64 0)).setCell ⟨w.heap.size + 2, 0, none⟩ (.int .i64 c)).drew := ((D5.Kp.of gX (fun k e => by cases e; omega)).trans (D5.Kp.of gY (fun k e => by cases e; omega))).trans (D5.Kp.of0 gZ)
    exact ⟨by rw [hsz]; exact kp_keepsFrom (HK.out.trans k34) (fun i hi => hi.2), rfl, ⟨kb HP3.out.bT (by omega) (by omega), ((HP3.out.bF.set 0 (.int .i64 0)).keep gY (ne_some (by omega))).keep0 gZ, (e0.set 0 (.int .i64 c)).keep0 gZ, kb HP3.out.bM (by omega) (by omega), kb HP3.out.bP (by omega) (by omega), kb HP3.out.bS (by omega) (by omega), HP3.out.kp.trans (k34.mono fun i hi => hi.1)⟩⟩
  case done =>
    rintro D ys W hD hys ⟨hI, _⟩ hK
    subst hys
    have := congrArg List.length hI
    rw [preL_length] at this
    have h0 : need s.size = 0 := this
    have := need_zero.1 h0
    omega
  case stop =>
    rintro D cd pre W hD - ⟨rfl, hI⟩ hK
    have HI := Lib.hid hI
    clear hI
    gi_wp2
    have gD := grownBy_putObj' W D (.deferred none)
    have h5 := HI.out.own gD (fun r e => by cases e; omega)
    refine ⟨by simp, .inl ⟨_, _, rfl, run_takeDeferred hK, ?_⟩⟩
    refine ⟨by simp, .inr ⟨fun _ => by omega, _, _, 24, #[.pointer (some ⟨w.heap.size + 2, 0, none⟩), .pointer (some ⟨w.heap.size, 0, none⟩), .pointer (some ⟨w.heap.size + 3, 0, none⟩)], rfl, by simp [go_sem], fun _ _ => trivial, ?_⟩⟩
    refine (end_no (by omega) (h5.bE.cell 0 rfl) hc0 (h5.bT.cell 0 rfl) (h5.bM.cell 0 rfl) (letGo_gone (H0.out.kp h5.kp))).mono ?_
    rintro e u' w'' ⟨rfl, rfl, g6⟩
    exact ⟨_, T9.two_rows rfl _ _ (w.heap.size + 1) (w.heap.size + 2) _ _ rfl rfl (h5.bF.keep0 g6) (h5.bE.keep0 g6), rfl, (h5.kp.step0 g6).gb fun _ h => .inr h⟩
end Go.Proofs.YtliiooldlooagaaGreatDoor.O12
