/-
  What Split answers of a node, over this seat's translation; conditions: the node lies as it is told, and has at most 300,000 of each.
-/
import Derived.Test.YthhimhjegodklaaGreatNl
namespace Go.Proofs.YthhimhjegodklaaGreat.N11
set_option linter.unusedSimpArgs false
set_option linter.unusedVariables false
open Go.RowKit
/-- The parts of a cut, and the key between. -/
def IsCut (n : Nd) (r : Nat) (A B : Nd) (k : ByteArray) : Prop :=
  (n.leaf = true ∧ ∃ x, n.cells[r]? = some x ∧ A = ⟨true, n.cells.take r, [], []⟩ ∧ B = ⟨true, n.cells.drop r, [], []⟩ ∧ k = x.key) ∨
  (n.leaf = false ∧ n.keys[r]? = some k ∧ A = ⟨false, [], n.keys.take r, n.kids.take (r + 1)⟩ ∧ B = ⟨false, [], n.keys.drop (r + 1), n.kids.drop (r + 1)⟩)
def BestN (n : Nd) (r : Nat) : Prop := 1 ≤ r ∧ (if n.leaf then Best cellSz 0 n.cells r else Best keySz 1 n.keys r)
/-- Too few, or none. -/
def Nd.few (n : Nd) : Bool := !n.may || (if n.leaf then decide (n.cells.length ≤ 1) else decide (n.keys.length ≤ 2))
def SplitNo (w : World) (e : Ending) (w' : World) : Prop := e = .returned (.tuple #[.agg #[.bool false, .slice none 0 0, .slice none 0 0, .slice none 0 0], .agg #[.bool false, .slice none 0 0, .slice none 0 0, .slice none 0 0], .string ⟨#[]⟩, .int .i64 2]) ∧ w.grownBy w' none
def SplitYes (n : Nd) (w : World) (e : Ending) (w' : World) : Prop :=
  ∃ r A B k va vb, BestN n r ∧ IsCut n r A B k ∧ e = .returned (.tuple #[va, vb, .string k, .int .i64 0]) ∧ NdV w' va A ∧ NdV w' vb B ∧ w.grownBy w' none
def ZeroGot (w : World) (e : Ending) (w' : World) : Prop := e = .returned (.int .i64 0) ∧ w.grownBy w' none
def BestYes {α : Type} (f : α → Nat) (gap : Nat) (l : List α) (w : World) (e : Ending) (w' : World) : Prop := ∃ r : Nat, e = .returned (.int .i64 r) ∧ 1 ≤ r ∧ r + gap < l.length ∧ Best f gap l r ∧ w.grownBy w' none
theorem bestNo_of {α : Type} {f : α → Nat} {gap : Nat} {l : List α} {w : World} {e : Ending} {w' : World} (h : BestGot f gap l w e w') (hl : l.length ≤ gap + 1) : ZeroGot w e w' := by
  obtain ⟨r, rfl, hr, g⟩ := h
  rcases hr with ⟨rfl, _⟩ | ⟨h1, h2, _⟩
  · exact ⟨rfl, g⟩
  · omega
theorem bestYes_of {α : Type} {f : α → Nat} {gap : Nat} {l : List α} {w : World} {e : Ending} {w' : World} (h : BestGot f gap l w e w') (hl : gap + 1 < l.length) : BestYes f gap l w e w' := by
  obtain ⟨r, rfl, hr, g⟩ := h
  have hr' := hr
  rcases hr with ⟨rfl, _⟩ | ⟨h1, h2, _⟩
  · omega
  · exact ⟨r, rfl, h1, h2, hr', g⟩
theorem cL_best {a b c : Value} {n : Nd} {w : World} (hl : n.leaf = true) (ha : Ces w a n.cells) (hb : Sts w b n.keys) (hm : n.may = true) (ho : n.Lim) (W : World) (g : w.grownBy W none) :
    Calls Tryz.prog 90 #[.agg #[.bool true, a, b, c]] W (BestGot cellSz 0 n.cells W) := by
  have := ho.cells; have := ho.keys; have := ho.kids
  rw [may_L hl] at hm
  obtain ⟨_, _, _, h4, _⟩ := mayL_parts hm
  have h5 := sum_cells h4
  exact bestL_any _ _ _ _ _ W (ha.keep0 g) (by omega) (by omega) (fun x hx => cell_small (h4 x hx))
theorem cL_cut {a b c : Value} {n : Nd} {w : World} (hl : n.leaf = true) (ha : Ces w a n.cells) (hb : Sts w b n.keys) (hc : Ins w c n.kids) (hm : n.may = true) (ho : n.Lim) (r : Nat) (hr : r < n.cells.length) (W : World) (g : w.grownBy W none) :
    ∃ A B k, IsCut n r A B k ∧ Calls Tryz.prog 91 #[.agg #[.bool true, a, b, c], .int .i64 (r : Nat)] W (CutGot A B k W) := by
  have := ho.cells; have := ho.keys; have := ho.kids
  rw [may_L hl] at hm
  obtain ⟨x, hx⟩ : ∃ x, n.cells[r]? = some x := ⟨_, List.getElem?_eq_getElem hr⟩
  exact ⟨_, _, _, .inl ⟨hl, x, hx, rfl, rfl, rfl⟩, cutL_any _ _ _ _ _ _ x W (ha.keep0 g) (by omega) hx⟩
set_option maxRecDepth 100000 in
set_option maxHeartbeats 1000000 in
theorem splitNo_L (a b c : Value) (n : Nd) (w : World) (hl : n.leaf = true) (ha : Ces w a n.cells) (hb : Sts w b n.keys) (hc : Ins w c n.kids) (ho : n.Lim) (hf : n.few = true) : Calls Tryz.prog 18 #[.agg #[.bool true, a, b, c]] w (SplitNo w) := by
  have HM := Lib.hid (cL_may hl ha hb hc ho)
  have m1 := Tryz.mL_mayBe (.bool true) a b c
  have m2 := Tryz.mL_best (.bool true) a b c
  obtain ⟨w0, hw0, _, k1, k2, g0, hz⟩ := new3 w 26 #[.bool true, a, b, c] 26 #[.bool false, .slice none 0 0, .slice none 0 0, .slice none 0 0] 26 #[.bool false, .slice none 0 0, .slice none 0 0, .slice none 0 0]
  have HW := Lib.hid hw0
  clear hw0 hz
  rcases hm : n.may with _ | _
  · rw [hm] at HM
    clear hm ha hb hc ho hl hf
    go_enter Tryz.func18, Tryz.ntmps18
    go_wp2_with (first
      | (go_at_call 21; (with_reducible refine (bodyOf_L _ _ _ _).mono ?_); rw [← HW.out]; rintro e w1 ⟨rfl, g1⟩; replace k1 := k1.keep0 g1; replace k2 := k2.keep0 g1; replace g1 := gb_trans g0 g1)
      | (go_at_call 94; (with_reducible refine (HM.out _ g1).mono ?_); rintro e w2 ⟨rfl, g2⟩; replace k1 := k1.keep0 g2; replace k2 := k2.keep0 g2; replace g2 := gb_trans g1 g2))
    refine wp_region_noPanic ?_
    refine wp_region_held_drew (S := fun w' => w.grownBy w' none ∧ Blk w' (w.heap.size + 1) 26 #[.bool false, .slice none 0 0, .slice none 0 0, .slice none 0 0] ∧ Blk w' (w.heap.size + 1 + 1) 26 #[.bool false, .slice none 0 0, .slice none 0 0, .slice none 0 0]) (by kernel_rfl) ⟨gb_trans g2 (gb_drew _ _), k1.keep0 (gb_drew _ _), k2.keep0 (gb_drew _ _)⟩ (fun hHeld => ?_)
    refine wpAnyH_take (i := 0) (v := ?_) (List.getElem?_toArray.trans rfl) (by kernel_rfl) (by kernel_rfl) (by kernel_rfl) (fun _ _ _ h => h) (Or.inl ⟨by rfl, ?_⟩) hHeld ?_
    rotate_left
    · intro w' hSw; obtain ⟨hg, b1, b2⟩ := hSw; have p0 := b1.cell 0 rfl; have p1 := b1.cell 1 rfl; have p2 := b1.cell 2 rfl; have p3 := b1.cell 3 rfl; have q0 := b2.cell 0 rfl; have q1 := b2.cell 1 rfl; have q2 := b2.cell 2 rfl; have q3 := b2.cell 3 rfl; clear b1 b2; go_simp; try with_reducible rfl
    try simp only [Act.put, List.setIfInBounds_toArray, List.set_cons_zero, List.set_cons_succ]
    refine wpAnyH_take (i := 1) (v := ?_) (List.getElem?_toArray.trans rfl) (by kernel_rfl) (by kernel_rfl) (by kernel_rfl) (fun _ _ _ h => h) (Or.inl ⟨by rfl, ?_⟩) hHeld ?_
    rotate_left
    · intro w' hSw; obtain ⟨hg, b1, b2⟩ := hSw; have p0 := b1.cell 0 rfl; have p1 := b1.cell 1 rfl; have p2 := b1.cell 2 rfl; have p3 := b1.cell 3 rfl; have q0 := b2.cell 0 rfl; have q1 := b2.cell 1 rfl; have q2 := b2.cell 2 rfl; have q3 := b2.cell 3 rfl; clear b1 b2; go_simp; try with_reducible rfl
    try simp only [Act.put, List.setIfInBounds_toArray, List.set_cons_zero, List.set_cons_succ]
    refine wpAnyH_ready (rs := [2]) (by kernel_rfl) (by simp) ?_
    refine AllReadyH.cons (List.getElem?_toArray.trans rfl) (fun K hK => ?_) AllReadyH.nil
    refine st_nodeO _ _ rfl (w.heap.size + 1) 26 false none none none 0 0 0 0 0 0 rfl rfl _ _ _ _ hHeld.2.1 ?_
    intro wa na ga
    refine hK.out _ _ (⟨gb_step hHeld.1 ga (by omega), na, hHeld.2.2.keep ga (ne_some (by omega))⟩) (fun hHeld => ?_)
    clear hK K
    try simp only [Act.put, List.setIfInBounds_toArray, List.set_cons_zero, List.set_cons_succ]
    refine wpAnyH_ready (rs := [3]) (by kernel_rfl) (by simp) ?_
    refine AllReadyH.cons (List.getElem?_toArray.trans rfl) (fun K hK => ?_) AllReadyH.nil
    refine st_nodeO _ _ rfl (w.heap.size + 1 + 1) 26 false none none none 0 0 0 0 0 0 rfl rfl _ _ _ _ hHeld.2.2 ?_
    intro wb nb gb
    refine hK.out _ _ (⟨gb_step hHeld.1 gb (by omega), hHeld.2.1.keep gb (ne_some (by omega)), nb⟩) (fun hHeld => ?_)
    clear hK K
    try simp only [Act.put, List.setIfInBounds_toArray, List.set_cons_zero, List.set_cons_succ]
    refine wpAnyH_take (i := 4) (v := ?_) (List.getElem?_toArray.trans rfl) (by kernel_rfl) (by kernel_rfl) (by kernel_rfl) (fun _ _ _ h => h) (Or.inl ⟨by rfl, ?_⟩) hHeld ?_
    rotate_left
    · intro w' hSw; obtain ⟨hg, b1, b2⟩ := hSw; have p0 := b1.cell 0 rfl; have p1 := b1.cell 1 rfl; have p2 := b1.cell 2 rfl; have p3 := b1.cell 3 rfl; have q0 := b2.cell 0 rfl; have q1 := b2.cell 1 rfl; have q2 := b2.cell 2 rfl; have q3 := b2.cell 3 rfl; clear b1 b2; go_simp; try with_reducible rfl
    try simp only [Act.put, List.setIfInBounds_toArray, List.set_cons_zero, List.set_cons_succ]
    refine wpAnyH_take (i := 5) (v := ?_) (List.getElem?_toArray.trans rfl) (by kernel_rfl) (by kernel_rfl) (by kernel_rfl) (fun _ _ _ h => h) (Or.inl ⟨by rfl, ?_⟩) hHeld ?_
    rotate_left
    · intro w' hSw; obtain ⟨hg, b1, b2⟩ := hSw; have p0 := b1.cell 0 rfl; have p1 := b1.cell 1 rfl; have p2 := b1.cell 2 rfl; have p3 := b1.cell 3 rfl; have q0 := b2.cell 0 rfl; have q1 := b2.cell 1 rfl; have q2 := b2.cell 2 rfl; have q3 := b2.cell 3 rfl; clear b1 b2; go_simp; try with_reducible rfl
    try simp only [Act.put, List.setIfInBounds_toArray, List.set_cons_zero, List.set_cons_succ]
    refine wpAnyH_done (by kernel_rfl) ?_ _
    refine NoPanic.normal ?_
    go_wp2
    refine bodyPost_ret (results_ccss rfl _ _ _ _ _ _ _ _ _ _ _ _ rfl hHeld.2.1 rfl hHeld.2.2) rfl ⟨rfl, hHeld.1⟩
  · have HN : Hid (∀ W, w.grownBy W none → Calls Tryz.prog 90 #[.agg #[.bool true, a, b, c]] W (ZeroGot W)) := Lib.hid (fun W g => (cL_best (c := c) hl ha hb hm ho W g).mono (fun _ _ h => bestNo_of h (by
      unfold Nd.few at hf
      rw [hm, hl] at hf
      simpa using hf)))
    rw [hm] at HM
    clear hm ha hb hc ho hl hf
    go_enter Tryz.func18, Tryz.ntmps18
    go_wp2_with (first
      | (go_at_call 21; (with_reducible refine (bodyOf_L _ _ _ _).mono ?_); rw [← HW.out]; rintro e w1 ⟨rfl, g1⟩; replace k1 := k1.keep0 g1; replace k2 := k2.keep0 g1; replace g1 := gb_trans g0 g1)
      | (go_at_call 94; (with_reducible refine (HM.out _ g1).mono ?_); rintro e w2 ⟨rfl, g2⟩; replace k1 := k1.keep0 g2; replace k2 := k2.keep0 g2; replace g2 := gb_trans g1 g2)
      | (go_at_call 90; (with_reducible refine (HN.out _ g2).mono ?_); rintro e w3 ⟨rfl, g3⟩; replace k1 := k1.keep0 g3; replace k2 := k2.keep0 g3; replace g3 := gb_trans g2 g3))
    refine wp_region_noPanic ?_
    refine wp_region_held_drew (S := fun w' => w.grownBy w' none ∧ Blk w' (w.heap.size + 1) 26 #[.bool false, .slice none 0 0, .slice none 0 0, .slice none 0 0] ∧ Blk w' (w.heap.size + 1 + 1) 26 #[.bool false, .slice none 0 0, .slice none 0 0, .slice none 0 0]) (by kernel_rfl) ⟨gb_trans g3 (gb_drew _ _), k1.keep0 (gb_drew _ _), k2.keep0 (gb_drew _ _)⟩ (fun hHeld => ?_)
    refine wpAnyH_take (i := 0) (v := ?_) (List.getElem?_toArray.trans rfl) (by kernel_rfl) (by kernel_rfl) (by kernel_rfl) (fun _ _ _ h => h) (Or.inl ⟨by rfl, ?_⟩) hHeld ?_
    rotate_left
    · intro w' hSw; obtain ⟨hg, b1, b2⟩ := hSw; have p0 := b1.cell 0 rfl; have p1 := b1.cell 1 rfl; have p2 := b1.cell 2 rfl; have p3 := b1.cell 3 rfl; have q0 := b2.cell 0 rfl; have q1 := b2.cell 1 rfl; have q2 := b2.cell 2 rfl; have q3 := b2.cell 3 rfl; clear b1 b2; go_simp; try with_reducible rfl
    try simp only [Act.put, List.setIfInBounds_toArray, List.set_cons_zero, List.set_cons_succ]
    refine wpAnyH_take (i := 1) (v := ?_) (List.getElem?_toArray.trans rfl) (by kernel_rfl) (by kernel_rfl) (by kernel_rfl) (fun _ _ _ h => h) (Or.inl ⟨by rfl, ?_⟩) hHeld ?_
    rotate_left
    · intro w' hSw; obtain ⟨hg, b1, b2⟩ := hSw; have p0 := b1.cell 0 rfl; have p1 := b1.cell 1 rfl; have p2 := b1.cell 2 rfl; have p3 := b1.cell 3 rfl; have q0 := b2.cell 0 rfl; have q1 := b2.cell 1 rfl; have q2 := b2.cell 2 rfl; have q3 := b2.cell 3 rfl; clear b1 b2; go_simp; try with_reducible rfl
    try simp only [Act.put, List.setIfInBounds_toArray, List.set_cons_zero, List.set_cons_succ]
    refine wpAnyH_ready (rs := [2]) (by kernel_rfl) (by simp) ?_
    refine AllReadyH.cons (List.getElem?_toArray.trans rfl) (fun K hK => ?_) AllReadyH.nil
    refine st_nodeO _ _ rfl (w.heap.size + 1) 26 false none none none 0 0 0 0 0 0 rfl rfl _ _ _ _ hHeld.2.1 ?_
    intro wa na ga
    refine hK.out _ _ (⟨gb_step hHeld.1 ga (by omega), na, hHeld.2.2.keep ga (ne_some (by omega))⟩) (fun hHeld => ?_)
    clear hK K
    try simp only [Act.put, List.setIfInBounds_toArray, List.set_cons_zero, List.set_cons_succ]
    refine wpAnyH_ready (rs := [3]) (by kernel_rfl) (by simp) ?_
    refine AllReadyH.cons (List.getElem?_toArray.trans rfl) (fun K hK => ?_) AllReadyH.nil
    refine st_nodeO _ _ rfl (w.heap.size + 1 + 1) 26 false none none none 0 0 0 0 0 0 rfl rfl _ _ _ _ hHeld.2.2 ?_
    intro wb nb gb
    refine hK.out _ _ (⟨gb_step hHeld.1 gb (by omega), hHeld.2.1.keep gb (ne_some (by omega)), nb⟩) (fun hHeld => ?_)
    clear hK K
    try simp only [Act.put, List.setIfInBounds_toArray, List.set_cons_zero, List.set_cons_succ]
    refine wpAnyH_take (i := 4) (v := ?_) (List.getElem?_toArray.trans rfl) (by kernel_rfl) (by kernel_rfl) (by kernel_rfl) (fun _ _ _ h => h) (Or.inl ⟨by rfl, ?_⟩) hHeld ?_
    rotate_left
    · intro w' hSw; obtain ⟨hg, b1, b2⟩ := hSw; have p0 := b1.cell 0 rfl; have p1 := b1.cell 1 rfl; have p2 := b1.cell 2 rfl; have p3 := b1.cell 3 rfl; have q0 := b2.cell 0 rfl; have q1 := b2.cell 1 rfl; have q2 := b2.cell 2 rfl; have q3 := b2.cell 3 rfl; clear b1 b2; go_simp; try with_reducible rfl
    try simp only [Act.put, List.setIfInBounds_toArray, List.set_cons_zero, List.set_cons_succ]
    refine wpAnyH_take (i := 5) (v := ?_) (List.getElem?_toArray.trans rfl) (by kernel_rfl) (by kernel_rfl) (by kernel_rfl) (fun _ _ _ h => h) (Or.inl ⟨by rfl, ?_⟩) hHeld ?_
    rotate_left
    · intro w' hSw; obtain ⟨hg, b1, b2⟩ := hSw; have p0 := b1.cell 0 rfl; have p1 := b1.cell 1 rfl; have p2 := b1.cell 2 rfl; have p3 := b1.cell 3 rfl; have q0 := b2.cell 0 rfl; have q1 := b2.cell 1 rfl; have q2 := b2.cell 2 rfl; have q3 := b2.cell 3 rfl; clear b1 b2; go_simp; try with_reducible rfl
    try simp only [Act.put, List.setIfInBounds_toArray, List.set_cons_zero, List.set_cons_succ]
    refine wpAnyH_done (by kernel_rfl) ?_ _
    refine NoPanic.normal ?_
    go_wp2
    refine bodyPost_ret (results_ccss rfl _ _ _ _ _ _ _ _ _ _ _ _ rfl hHeld.2.1 rfl hHeld.2.2) rfl ⟨rfl, hHeld.1⟩
set_option maxRecDepth 100000 in
set_option maxHeartbeats 1000000 in
theorem splitYes_L (a b c : Value) (n : Nd) (w : World) (hl : n.leaf = true) (ha : Ces w a n.cells) (hb : Sts w b n.keys) (hc : Ins w c n.kids) (ho : n.Lim) (hf : n.few = false) : Calls Tryz.prog 18 #[.agg #[.bool true, a, b, c]] w (SplitYes n w) := by
  have HM := Lib.hid (cL_may hl ha hb hc ho)
  have m1 := Tryz.mL_mayBe (.bool true) a b c
  have m2 := Tryz.mL_best (.bool true) a b c
  have m3 := Tryz.mL_cut (.bool true) a b c
  obtain ⟨w0, hw0, _, k1, k2, g0, hz⟩ := new3 w 26 #[.bool true, a, b, c] 26 #[.bool false, .slice none 0 0, .slice none 0 0, .slice none 0 0] 26 #[.bool false, .slice none 0 0, .slice none 0 0, .slice none 0 0]
  have HW := Lib.hid hw0
  clear hw0 hz
  have hm : n.may = true ∧ 0 + 1 < n.cells.length := by
    unfold Nd.few at hf
    rw [hl] at hf
    simp at hf
    exact ⟨hf.1, by omega⟩
  obtain ⟨hm, hlen⟩ := hm
  have HN : Hid (∀ W, w.grownBy W none → Calls Tryz.prog 90 #[.agg #[.bool true, a, b, c]] W (BestYes cellSz 0 n.cells W)) := Lib.hid (fun W g => (cL_best (c := c) hl ha hb hm ho W g).mono (fun _ _ h => bestYes_of h hlen))
  have HC := Lib.hid (cL_cut hl ha hb hc hm ho)
  have HL := Lib.hid hl
  rw [hm] at HM
  clear hm ha hb hc ho hl hf hlen
  go_enter Tryz.func18, Tryz.ntmps18
  go_wp2_with (first
    | (go_at_call 21; (with_reducible refine (bodyOf_L _ _ _ _).mono ?_); rw [← HW.out]; rintro e w1 ⟨rfl, g1⟩; replace k1 := k1.keep0 g1; replace k2 := k2.keep0 g1; replace g1 := gb_trans g0 g1)
    | (go_at_call 94; (with_reducible refine (HM.out _ g1).mono ?_); rintro e w2 ⟨rfl, g2⟩; replace k1 := k1.keep0 g2; replace k2 := k2.keep0 g2; replace g2 := gb_trans g1 g2)
    | (go_at_call 90; (with_reducible refine (HN.out _ g2).mono ?_); rintro e w3 ⟨r, rfl, hr1, hr2, hr3, g3⟩; replace k1 := k1.keep0 g3; replace k2 := k2.keep0 g3; replace g3 := gb_trans g2 g3; have HR := Lib.hid (And.intro hr2 hr3); have hr0 : ((r : Int) == 0) = false := (by simp; omega); clear hr2 hr3)
    | (go_at_call 91; obtain ⟨A, B, key, hcut, hcall⟩ := HC.out r (by have := HR.out.1; omega) _ g3; (with_reducible refine hcall.mono ?_); clear hcall; rintro e w4 ⟨va, vb, rfl, hva, hvb, g4⟩; obtain ⟨x1, y1, z1, rfl, ax, ay, az⟩ := hva; obtain ⟨x2, y2, z2, rfl, bx, bY, bz⟩ := hvb; obtain ⟨o1, q1, d1, rfl⟩ := shape' ax; obtain ⟨o2, q2, d2, rfl⟩ := shape' ay; obtain ⟨o3, q3, d3, rfl⟩ := shape' az; obtain ⟨o4, q4, d4, rfl⟩ := shape' bx; obtain ⟨o5, q5, d5, rfl⟩ := shape' bY; obtain ⟨o6, q6, d6, rfl⟩ := shape' bz; have HA : Hid (NdV w4 (.agg #[.bool A.leaf, .slice o1 q1 d1, .slice o2 q2 d2, .slice o3 q3 d3]) A) := Lib.hid ⟨_, _, _, rfl, ax, ay, az⟩; have HB : Hid (NdV w4 (.agg #[.bool B.leaf, .slice o4 q4 d4, .slice o5 q5 d5, .slice o6 q6 d6]) B) := Lib.hid ⟨_, _, _, rfl, bx, bY, bz⟩; replace k1 := k1.keep0 g4; replace k2 := k2.keep0 g4; replace g4 := gb_trans g3 g4; have HCUT := Lib.hid hcut; clear hcut ax ay az bx bY bz)
    | ((with_reducible refine st_node rfl (w.heap.size + 1) 26 ?_ ?_ ?_ ?_ ?_ ?_ ?_ ?_ ?_ ?_ ?_ ?_ _ _ _ _ k1 ?_); rotate_left 10; (· rfl); (· rfl); intro w5 n5 g5; replace HA := Lib.hid (HA.out.keepN (Nbl.node k1) g5); replace HB := Lib.hid (HB.out.keepN (Nbl.node k1) g5); clear k1; replace k2 := k2.keep g5 (ne_some (by omega)); replace g4 := gb_step g4 g5 (by omega))
    | ((with_reducible refine st_node rfl (w.heap.size + 1 + 1) 26 ?_ ?_ ?_ ?_ ?_ ?_ ?_ ?_ ?_ ?_ ?_ ?_ _ _ _ _ k2 ?_); rotate_left 10; (· rfl); (· rfl); intro w6 n6 g6; replace HA := Lib.hid (HA.out.keepN (Nbl.node k2) g6); replace HB := Lib.hid (HB.out.keepN (Nbl.node k2) g6); clear k2; have k1 := n5.keep g6 (ne_some (by omega)); have k2 := n6; replace g4 := gb_step g4 g6 (by omega)))
  refine wp_region_noPanic ?_
  refine wp_region_held_drew (S := fun w' => w.grownBy w' none ∧ Blk w' (w.heap.size + 1) 26 #[.bool A.leaf, .slice o1 q1 d1, .slice o2 q2 d2, .slice o3 q3 d3] ∧ Blk w' (w.heap.size + 1 + 1) 26 #[.bool B.leaf, .slice o4 q4 d4, .slice o5 q5 d5, .slice o6 q6 d6] ∧ NdV w' (.agg #[.bool A.leaf, .slice o1 q1 d1, .slice o2 q2 d2, .slice o3 q3 d3]) A ∧ NdV w' (.agg #[.bool B.leaf, .slice o4 q4 d4, .slice o5 q5 d5, .slice o6 q6 d6]) B) (by kernel_rfl) ⟨gb_trans g4 (gb_drew _ _), k1.keep0 (gb_drew _ _), k2.keep0 (gb_drew _ _), HA.out.keep0 (gb_drew _ _), HB.out.keep0 (gb_drew _ _)⟩ (fun hHeld => ?_)
  refine wpAnyH_take (i := 0) (v := ?_) (List.getElem?_toArray.trans rfl) (by kernel_rfl) (by kernel_rfl) (by kernel_rfl) (fun _ _ _ h => h) (Or.inl ⟨by rfl, ?_⟩) hHeld ?_
  rotate_left
  · intro w' hSw; obtain ⟨hg, b1, b2, _, _⟩ := hSw; have p0 := b1.cell 0 rfl; have p1 := b1.cell 1 rfl; have p2 := b1.cell 2 rfl; have p3 := b1.cell 3 rfl; have r0 := b2.cell 0 rfl; have r1 := b2.cell 1 rfl; have r2 := b2.cell 2 rfl; have r3 := b2.cell 3 rfl; clear b1 b2; go_simp; try with_reducible rfl
  try simp only [Act.put, List.setIfInBounds_toArray, List.set_cons_zero, List.set_cons_succ]
  refine wpAnyH_take (i := 1) (v := ?_) (List.getElem?_toArray.trans rfl) (by kernel_rfl) (by kernel_rfl) (by kernel_rfl) (fun _ _ _ h => h) (Or.inl ⟨by rfl, ?_⟩) hHeld ?_
  rotate_left
  · intro w' hSw; obtain ⟨hg, b1, b2, _, _⟩ := hSw; have p0 := b1.cell 0 rfl; have p1 := b1.cell 1 rfl; have p2 := b1.cell 2 rfl; have p3 := b1.cell 3 rfl; have r0 := b2.cell 0 rfl; have r1 := b2.cell 1 rfl; have r2 := b2.cell 2 rfl; have r3 := b2.cell 3 rfl; clear b1 b2; go_simp; try with_reducible rfl
  try simp only [Act.put, List.setIfInBounds_toArray, List.set_cons_zero, List.set_cons_succ]
  refine wpAnyH_take (i := 2) (v := ?_) (List.getElem?_toArray.trans rfl) (by kernel_rfl) (by kernel_rfl) (by kernel_rfl) (fun _ _ _ h => h) (Or.inl ⟨by rfl, ?_⟩) hHeld ?_
  rotate_left
  · intro w' hSw; obtain ⟨hg, b1, b2, _, _⟩ := hSw; have p0 := b1.cell 0 rfl; have p1 := b1.cell 1 rfl; have p2 := b1.cell 2 rfl; have p3 := b1.cell 3 rfl; have r0 := b2.cell 0 rfl; have r1 := b2.cell 1 rfl; have r2 := b2.cell 2 rfl; have r3 := b2.cell 3 rfl; clear b1 b2; go_simp; try with_reducible rfl
  try simp only [Act.put, List.setIfInBounds_toArray, List.set_cons_zero, List.set_cons_succ]
  refine wpAnyH_ready (rs := [3]) (by kernel_rfl) (by simp) ?_
  refine AllReadyH.cons (List.getElem?_toArray.trans rfl) (fun K hK => ?_) AllReadyH.nil
  refine st_nodeO _ _ rfl (w.heap.size + 1) 26 A.leaf o1 o2 o3 q1 q2 q3 d1 d2 d3 rfl rfl _ _ _ _ hHeld.2.1 ?_
  intro wa na ga
  refine hK.out _ _ (⟨gb_step hHeld.1 ga (by omega), na, hHeld.2.2.1.keep ga (ne_some (by omega)), hHeld.2.2.2.1.keepN (Nbl.node hHeld.2.1) ga, hHeld.2.2.2.2.keepN (Nbl.node hHeld.2.1) ga⟩) (fun hHeld => ?_)
  clear hK K
  try simp only [Act.put, List.setIfInBounds_toArray, List.set_cons_zero, List.set_cons_succ]
  refine wpAnyH_ready (rs := [4]) (by kernel_rfl) (by simp) ?_
  refine AllReadyH.cons (List.getElem?_toArray.trans rfl) (fun K hK => ?_) AllReadyH.nil
  refine st_nodeO _ _ rfl (w.heap.size + 1 + 1) 26 B.leaf o4 o5 o6 q4 q5 q6 d4 d5 d6 rfl rfl _ _ _ _ hHeld.2.2.1 ?_
  intro wb nb gb
  refine hK.out _ _ (⟨gb_step hHeld.1 gb (by omega), hHeld.2.1.keep gb (ne_some (by omega)), nb, hHeld.2.2.2.1.keepN (Nbl.node hHeld.2.2.1) gb, hHeld.2.2.2.2.keepN (Nbl.node hHeld.2.2.1) gb⟩) (fun hHeld => ?_)
  clear hK K
  try simp only [Act.put, List.setIfInBounds_toArray, List.set_cons_zero, List.set_cons_succ]
  refine wpAnyH_take (i := 5) (v := ?_) (List.getElem?_toArray.trans rfl) (by kernel_rfl) (by kernel_rfl) (by kernel_rfl) (fun _ _ _ h => h) (Or.inl ⟨by rfl, ?_⟩) hHeld ?_
  rotate_left
  · intro w' hSw; obtain ⟨hg, b1, b2, _, _⟩ := hSw; have p0 := b1.cell 0 rfl; have p1 := b1.cell 1 rfl; have p2 := b1.cell 2 rfl; have p3 := b1.cell 3 rfl; have r0 := b2.cell 0 rfl; have r1 := b2.cell 1 rfl; have r2 := b2.cell 2 rfl; have r3 := b2.cell 3 rfl; clear b1 b2; go_simp; try with_reducible rfl
  try simp only [Act.put, List.setIfInBounds_toArray, List.set_cons_zero, List.set_cons_succ]
  refine wpAnyH_take (i := 6) (v := ?_) (List.getElem?_toArray.trans rfl) (by kernel_rfl) (by kernel_rfl) (by kernel_rfl) (fun _ _ _ h => h) (Or.inl ⟨by rfl, ?_⟩) hHeld ?_
  rotate_left
  · intro w' hSw; obtain ⟨hg, b1, b2, _, _⟩ := hSw; have p0 := b1.cell 0 rfl; have p1 := b1.cell 1 rfl; have p2 := b1.cell 2 rfl; have p3 := b1.cell 3 rfl; have r0 := b2.cell 0 rfl; have r1 := b2.cell 1 rfl; have r2 := b2.cell 2 rfl; have r3 := b2.cell 3 rfl; clear b1 b2; go_simp; try with_reducible rfl
  try simp only [Act.put, List.setIfInBounds_toArray, List.set_cons_zero, List.set_cons_succ]
  refine wpAnyH_done (by kernel_rfl) ?_ _
  refine NoPanic.normal ?_
  go_wp2
  refine bodyPost_ret (results_ccss rfl _ _ _ _ _ _ _ _ _ _ _ _ rfl hHeld.2.1 rfl hHeld.2.2.1) rfl ⟨r, A, B, key, _, _, ⟨hr1, ?_⟩, HCUT.out, rfl, hHeld.2.2.2.1, hHeld.2.2.2.2, hHeld.1⟩
  rw [HL.out]; exact HR.out.2
theorem cI_best {a b c : Value} {n : Nd} {w : World} (hl : n.leaf = false) (ha : Ces w a n.cells) (hb : Sts w b n.keys) (hm : n.may = true) (ho : n.Lim) (W : World) (g : w.grownBy W none) :
    Calls Tryz.prog 113 #[.agg #[.bool false, a, b, c]] W (BestGot keySz 1 n.keys W) := by
  have := ho.cells; have := ho.keys; have := ho.kids
  rw [may_I hl] at hm
  obtain ⟨_, h2, _, h4, _⟩ := mayI_parts hm
  have h5 := sum_keys h4
  exact bestI_any _ _ _ _ _ W (stsKeep0 hb g) (by omega) (by omega) (by omega) (fun x hx => key_small (h4 x hx))
theorem cI_cut {a b c : Value} {n : Nd} {w : World} (hl : n.leaf = false) (ha : Ces w a n.cells) (hb : Sts w b n.keys) (hc : Ins w c n.kids) (hm : n.may = true) (ho : n.Lim) (r : Nat) (hr : r < n.keys.length) (W : World) (g : w.grownBy W none) :
    ∃ A B k, IsCut n r A B k ∧ Calls Tryz.prog 114 #[.agg #[.bool false, a, b, c], .int .i64 (r : Nat)] W (CutGot A B k W) := by
  have := ho.cells; have := ho.keys; have := ho.kids
  rw [may_I hl] at hm
  obtain ⟨x, hx⟩ : ∃ x, n.keys[r]? = some x := ⟨_, List.getElem?_eq_getElem hr⟩
  obtain ⟨_, h2, h3, h4, _⟩ := mayI_parts hm
  exact ⟨_, _, _, .inr ⟨hl, hx, rfl, rfl⟩, cutI_any _ _ _ _ _ _ _ x W (stsKeep0 hb g) (hc.keep0 g) (by omega) h3 hx⟩
set_option maxRecDepth 100000 in
set_option maxHeartbeats 1000000 in
theorem splitNo_I (a b c : Value) (n : Nd) (w : World) (hl : n.leaf = false) (ha : Ces w a n.cells) (hb : Sts w b n.keys) (hc : Ins w c n.kids) (ho : n.Lim) (hf : n.few = true) : Calls Tryz.prog 18 #[.agg #[.bool false, a, b, c]] w (SplitNo w) := by
  have HM := Lib.hid (cI_may hl ha hb hc ho)
  have m1 := Tryz.mI_mayBe (.bool false) a b c
  have m2 := Tryz.mI_best (.bool false) a b c
  obtain ⟨w0, hw0, _, k1, k2, g0, hz⟩ := new3 w 26 #[.bool false, a, b, c] 26 #[.bool false, .slice none 0 0, .slice none 0 0, .slice none 0 0] 26 #[.bool false, .slice none 0 0, .slice none 0 0, .slice none 0 0]
  have HW := Lib.hid hw0
  clear hw0 hz
  rcases hm : n.may with _ | _
  · rw [hm] at HM
    clear hm ha hb hc ho hl hf
    go_enter Tryz.func18, Tryz.ntmps18
    go_wp2_with (first
      | (go_at_call 21; (with_reducible refine (bodyOf_I _ _ _ _).mono ?_); rw [← HW.out]; rintro e w1 ⟨rfl, g1⟩; replace k1 := k1.keep0 g1; replace k2 := k2.keep0 g1; replace g1 := gb_trans g0 g1)
      | (go_at_call 117; (with_reducible refine (HM.out _ g1).mono ?_); rintro e w2 ⟨rfl, g2⟩; replace k1 := k1.keep0 g2; replace k2 := k2.keep0 g2; replace g2 := gb_trans g1 g2))
    refine wp_region_noPanic ?_
    refine wp_region_held_drew (S := fun w' => w.grownBy w' none ∧ Blk w' (w.heap.size + 1) 26 #[.bool false, .slice none 0 0, .slice none 0 0, .slice none 0 0] ∧ Blk w' (w.heap.size + 1 + 1) 26 #[.bool false, .slice none 0 0, .slice none 0 0, .slice none 0 0]) (by kernel_rfl) ⟨gb_trans g2 (gb_drew _ _), k1.keep0 (gb_drew _ _), k2.keep0 (gb_drew _ _)⟩ (fun hHeld => ?_)
    refine wpAnyH_take (i := 0) (v := ?_) (List.getElem?_toArray.trans rfl) (by kernel_rfl) (by kernel_rfl) (by kernel_rfl) (fun _ _ _ h => h) (Or.inl ⟨by rfl, ?_⟩) hHeld ?_
    rotate_left
    · intro w' hSw; obtain ⟨hg, b1, b2⟩ := hSw; have p0 := b1.cell 0 rfl; have p1 := b1.cell 1 rfl; have p2 := b1.cell 2 rfl; have p3 := b1.cell 3 rfl; have q0 := b2.cell 0 rfl; have q1 := b2.cell 1 rfl; have q2 := b2.cell 2 rfl; have q3 := b2.cell 3 rfl; clear b1 b2; go_simp; try with_reducible rfl
    try simp only [Act.put, List.setIfInBounds_toArray, List.set_cons_zero, List.set_cons_succ]
    refine wpAnyH_take (i := 1) (v := ?_) (List.getElem?_toArray.trans rfl) (by kernel_rfl) (by kernel_rfl) (by kernel_rfl) (fun _ _ _ h => h) (Or.inl ⟨by rfl, ?_⟩) hHeld ?_
    rotate_left
    · intro w' hSw; obtain ⟨hg, b1, b2⟩ := hSw; have p0 := b1.cell 0 rfl; have p1 := b1.cell 1 rfl; have p2 := b1.cell 2 rfl; have p3 := b1.cell 3 rfl; have q0 := b2.cell 0 rfl; have q1 := b2.cell 1 rfl; have q2 := b2.cell 2 rfl; have q3 := b2.cell 3 rfl; clear b1 b2; go_simp; try with_reducible rfl
    try simp only [Act.put, List.setIfInBounds_toArray, List.set_cons_zero, List.set_cons_succ]
    refine wpAnyH_ready (rs := [2]) (by kernel_rfl) (by simp) ?_
    refine AllReadyH.cons (List.getElem?_toArray.trans rfl) (fun K hK => ?_) AllReadyH.nil
    refine st_nodeO _ _ rfl (w.heap.size + 1) 26 false none none none 0 0 0 0 0 0 rfl rfl _ _ _ _ hHeld.2.1 ?_
    intro wa na ga
    refine hK.out _ _ (⟨gb_step hHeld.1 ga (by omega), na, hHeld.2.2.keep ga (ne_some (by omega))⟩) (fun hHeld => ?_)
    clear hK K
    try simp only [Act.put, List.setIfInBounds_toArray, List.set_cons_zero, List.set_cons_succ]
    refine wpAnyH_ready (rs := [3]) (by kernel_rfl) (by simp) ?_
    refine AllReadyH.cons (List.getElem?_toArray.trans rfl) (fun K hK => ?_) AllReadyH.nil
    refine st_nodeO _ _ rfl (w.heap.size + 1 + 1) 26 false none none none 0 0 0 0 0 0 rfl rfl _ _ _ _ hHeld.2.2 ?_
    intro wb nb gb
    refine hK.out _ _ (⟨gb_step hHeld.1 gb (by omega), hHeld.2.1.keep gb (ne_some (by omega)), nb⟩) (fun hHeld => ?_)
    clear hK K
    try simp only [Act.put, List.setIfInBounds_toArray, List.set_cons_zero, List.set_cons_succ]
    refine wpAnyH_take (i := 4) (v := ?_) (List.getElem?_toArray.trans rfl) (by kernel_rfl) (by kernel_rfl) (by kernel_rfl) (fun _ _ _ h => h) (Or.inl ⟨by rfl, ?_⟩) hHeld ?_
    rotate_left
    · intro w' hSw; obtain ⟨hg, b1, b2⟩ := hSw; have p0 := b1.cell 0 rfl; have p1 := b1.cell 1 rfl; have p2 := b1.cell 2 rfl; have p3 := b1.cell 3 rfl; have q0 := b2.cell 0 rfl; have q1 := b2.cell 1 rfl; have q2 := b2.cell 2 rfl; have q3 := b2.cell 3 rfl; clear b1 b2; go_simp; try with_reducible rfl
    try simp only [Act.put, List.setIfInBounds_toArray, List.set_cons_zero, List.set_cons_succ]
    refine wpAnyH_take (i := 5) (v := ?_) (List.getElem?_toArray.trans rfl) (by kernel_rfl) (by kernel_rfl) (by kernel_rfl) (fun _ _ _ h => h) (Or.inl ⟨by rfl, ?_⟩) hHeld ?_
    rotate_left
    · intro w' hSw; obtain ⟨hg, b1, b2⟩ := hSw; have p0 := b1.cell 0 rfl; have p1 := b1.cell 1 rfl; have p2 := b1.cell 2 rfl; have p3 := b1.cell 3 rfl; have q0 := b2.cell 0 rfl; have q1 := b2.cell 1 rfl; have q2 := b2.cell 2 rfl; have q3 := b2.cell 3 rfl; clear b1 b2; go_simp; try with_reducible rfl
    try simp only [Act.put, List.setIfInBounds_toArray, List.set_cons_zero, List.set_cons_succ]
    refine wpAnyH_done (by kernel_rfl) ?_ _
    refine NoPanic.normal ?_
    go_wp2
    refine bodyPost_ret (results_ccss rfl _ _ _ _ _ _ _ _ _ _ _ _ rfl hHeld.2.1 rfl hHeld.2.2) rfl ⟨rfl, hHeld.1⟩
  · have HN : Hid (∀ W, w.grownBy W none → Calls Tryz.prog 113 #[.agg #[.bool false, a, b, c]] W (ZeroGot W)) := Lib.hid (fun W g => (cI_best (c := c) hl ha hb hm ho W g).mono (fun _ _ h => bestNo_of h (by
      unfold Nd.few at hf
      rw [hm, hl] at hf
      simpa using hf)))
    rw [hm] at HM
    clear hm ha hb hc ho hl hf
    go_enter Tryz.func18, Tryz.ntmps18
    go_wp2_with (first
      | (go_at_call 21; (with_reducible refine (bodyOf_I _ _ _ _).mono ?_); rw [← HW.out]; rintro e w1 ⟨rfl, g1⟩; replace k1 := k1.keep0 g1; replace k2 := k2.keep0 g1; replace g1 := gb_trans g0 g1)
      | (go_at_call 117; (with_reducible refine (HM.out _ g1).mono ?_); rintro e w2 ⟨rfl, g2⟩; replace k1 := k1.keep0 g2; replace k2 := k2.keep0 g2; replace g2 := gb_trans g1 g2)
      | (go_at_call 113; (with_reducible refine (HN.out _ g2).mono ?_); rintro e w3 ⟨rfl, g3⟩; replace k1 := k1.keep0 g3; replace k2 := k2.keep0 g3; replace g3 := gb_trans g2 g3))
    refine wp_region_noPanic ?_
    refine wp_region_held_drew (S := fun w' => w.grownBy w' none ∧ Blk w' (w.heap.size + 1) 26 #[.bool false, .slice none 0 0, .slice none 0 0, .slice none 0 0] ∧ Blk w' (w.heap.size + 1 + 1) 26 #[.bool false, .slice none 0 0, .slice none 0 0, .slice none 0 0]) (by kernel_rfl) ⟨gb_trans g3 (gb_drew _ _), k1.keep0 (gb_drew _ _), k2.keep0 (gb_drew _ _)⟩ (fun hHeld => ?_)
    refine wpAnyH_take (i := 0) (v := ?_) (List.getElem?_toArray.trans rfl) (by kernel_rfl) (by kernel_rfl) (by kernel_rfl) (fun _ _ _ h => h) (Or.inl ⟨by rfl, ?_⟩) hHeld ?_
    rotate_left
    · intro w' hSw; obtain ⟨hg, b1, b2⟩ := hSw; have p0 := b1.cell 0 rfl; have p1 := b1.cell 1 rfl; have p2 := b1.cell 2 rfl; have p3 := b1.cell 3 rfl; have q0 := b2.cell 0 rfl; have q1 := b2.cell 1 rfl; have q2 := b2.cell 2 rfl; have q3 := b2.cell 3 rfl; clear b1 b2; go_simp; try with_reducible rfl
    try simp only [Act.put, List.setIfInBounds_toArray, List.set_cons_zero, List.set_cons_succ]
    refine wpAnyH_take (i := 1) (v := ?_) (List.getElem?_toArray.trans rfl) (by kernel_rfl) (by kernel_rfl) (by kernel_rfl) (fun _ _ _ h => h) (Or.inl ⟨by rfl, ?_⟩) hHeld ?_
    rotate_left
    · intro w' hSw; obtain ⟨hg, b1, b2⟩ := hSw; have p0 := b1.cell 0 rfl; have p1 := b1.cell 1 rfl; have p2 := b1.cell 2 rfl; have p3 := b1.cell 3 rfl; have q0 := b2.cell 0 rfl; have q1 := b2.cell 1 rfl; have q2 := b2.cell 2 rfl; have q3 := b2.cell 3 rfl; clear b1 b2; go_simp; try with_reducible rfl
    try simp only [Act.put, List.setIfInBounds_toArray, List.set_cons_zero, List.set_cons_succ]
    refine wpAnyH_ready (rs := [2]) (by kernel_rfl) (by simp) ?_
    refine AllReadyH.cons (List.getElem?_toArray.trans rfl) (fun K hK => ?_) AllReadyH.nil
    refine st_nodeO _ _ rfl (w.heap.size + 1) 26 false none none none 0 0 0 0 0 0 rfl rfl _ _ _ _ hHeld.2.1 ?_
    intro wa na ga
    refine hK.out _ _ (⟨gb_step hHeld.1 ga (by omega), na, hHeld.2.2.keep ga (ne_some (by omega))⟩) (fun hHeld => ?_)
    clear hK K
    try simp only [Act.put, List.setIfInBounds_toArray, List.set_cons_zero, List.set_cons_succ]
    refine wpAnyH_ready (rs := [3]) (by kernel_rfl) (by simp) ?_
    refine AllReadyH.cons (List.getElem?_toArray.trans rfl) (fun K hK => ?_) AllReadyH.nil
    refine st_nodeO _ _ rfl (w.heap.size + 1 + 1) 26 false none none none 0 0 0 0 0 0 rfl rfl _ _ _ _ hHeld.2.2 ?_
    intro wb nb gb
    refine hK.out _ _ (⟨gb_step hHeld.1 gb (by omega), hHeld.2.1.keep gb (ne_some (by omega)), nb⟩) (fun hHeld => ?_)
    clear hK K
    try simp only [Act.put, List.setIfInBounds_toArray, List.set_cons_zero, List.set_cons_succ]
    refine wpAnyH_take (i := 4) (v := ?_) (List.getElem?_toArray.trans rfl) (by kernel_rfl) (by kernel_rfl) (by kernel_rfl) (fun _ _ _ h => h) (Or.inl ⟨by rfl, ?_⟩) hHeld ?_
    rotate_left
    · intro w' hSw; obtain ⟨hg, b1, b2⟩ := hSw; have p0 := b1.cell 0 rfl; have p1 := b1.cell 1 rfl; have p2 := b1.cell 2 rfl; have p3 := b1.cell 3 rfl; have q0 := b2.cell 0 rfl; have q1 := b2.cell 1 rfl; have q2 := b2.cell 2 rfl; have q3 := b2.cell 3 rfl; clear b1 b2; go_simp; try with_reducible rfl
    try simp only [Act.put, List.setIfInBounds_toArray, List.set_cons_zero, List.set_cons_succ]
    refine wpAnyH_take (i := 5) (v := ?_) (List.getElem?_toArray.trans rfl) (by kernel_rfl) (by kernel_rfl) (by kernel_rfl) (fun _ _ _ h => h) (Or.inl ⟨by rfl, ?_⟩) hHeld ?_
    rotate_left
    · intro w' hSw; obtain ⟨hg, b1, b2⟩ := hSw; have p0 := b1.cell 0 rfl; have p1 := b1.cell 1 rfl; have p2 := b1.cell 2 rfl; have p3 := b1.cell 3 rfl; have q0 := b2.cell 0 rfl; have q1 := b2.cell 1 rfl; have q2 := b2.cell 2 rfl; have q3 := b2.cell 3 rfl; clear b1 b2; go_simp; try with_reducible rfl
    try simp only [Act.put, List.setIfInBounds_toArray, List.set_cons_zero, List.set_cons_succ]
    refine wpAnyH_done (by kernel_rfl) ?_ _
    refine NoPanic.normal ?_
    go_wp2
    refine bodyPost_ret (results_ccss rfl _ _ _ _ _ _ _ _ _ _ _ _ rfl hHeld.2.1 rfl hHeld.2.2) rfl ⟨rfl, hHeld.1⟩
set_option maxRecDepth 100000 in
set_option maxHeartbeats 1000000 in
theorem splitYes_I (a b c : Value) (n : Nd) (w : World) (hl : n.leaf = false) (ha : Ces w a n.cells) (hb : Sts w b n.keys) (hc : Ins w c n.kids) (ho : n.Lim) (hf : n.few = false) : Calls Tryz.prog 18 #[.agg #[.bool false, a, b, c]] w (SplitYes n w) := by
  have HM := Lib.hid (cI_may hl ha hb hc ho)
  have m1 := Tryz.mI_mayBe (.bool false) a b c
  have m2 := Tryz.mI_best (.bool false) a b c
  have m3 := Tryz.mI_cut (.bool false) a b c
  obtain ⟨w0, hw0, _, k1, k2, g0, hz⟩ := new3 w 26 #[.bool false, a, b, c] 26 #[.bool false, .slice none 0 0, .slice none 0 0, .slice none 0 0] 26 #[.bool false, .slice none 0 0, .slice none 0 0, .slice none 0 0]
  have HW := Lib.hid hw0
  clear hw0 hz
  have hm : n.may = true ∧ 1 + 1 < n.keys.length := by
    unfold Nd.few at hf
    rw [hl] at hf
    simp at hf
    exact ⟨hf.1, by omega⟩
  obtain ⟨hm, hlen⟩ := hm
  have HN : Hid (∀ W, w.grownBy W none → Calls Tryz.prog 113 #[.agg #[.bool false, a, b, c]] W (BestYes keySz 1 n.keys W)) := Lib.hid (fun W g => (cI_best (c := c) hl ha hb hm ho W g).mono (fun _ _ h => bestYes_of h hlen))
  have HC := Lib.hid (cI_cut hl ha hb hc hm ho)
  have HL := Lib.hid hl
  rw [hm] at HM
  clear hm ha hb hc ho hl hf hlen
  go_enter Tryz.func18, Tryz.ntmps18
  go_wp2_with (first
    | (go_at_call 21; (with_reducible refine (bodyOf_I _ _ _ _).mono ?_); rw [← HW.out]; rintro e w1 ⟨rfl, g1⟩; replace k1 := k1.keep0 g1; replace k2 := k2.keep0 g1; replace g1 := gb_trans g0 g1)
    | (go_at_call 117; (with_reducible refine (HM.out _ g1).mono ?_); rintro e w2 ⟨rfl, g2⟩; replace k1 := k1.keep0 g2; replace k2 := k2.keep0 g2; replace g2 := gb_trans g1 g2)
    | (go_at_call 113; (with_reducible refine (HN.out _ g2).mono ?_); rintro e w3 ⟨r, rfl, hr1, hr2, hr3, g3⟩; replace k1 := k1.keep0 g3; replace k2 := k2.keep0 g3; replace g3 := gb_trans g2 g3; have HR := Lib.hid (And.intro hr2 hr3); have hr0 : ((r : Int) == 0) = false := (by simp; omega); clear hr2 hr3)
    | (go_at_call 114; obtain ⟨A, B, key, hcut, hcall⟩ := HC.out r (by have := HR.out.1; omega) _ g3; (with_reducible refine hcall.mono ?_); clear hcall; rintro e w4 ⟨va, vb, rfl, hva, hvb, g4⟩; obtain ⟨x1, y1, z1, rfl, ax, ay, az⟩ := hva; obtain ⟨x2, y2, z2, rfl, bx, bY, bz⟩ := hvb; obtain ⟨o1, q1, d1, rfl⟩ := shape' ax; obtain ⟨o2, q2, d2, rfl⟩ := shape' ay; obtain ⟨o3, q3, d3, rfl⟩ := shape' az; obtain ⟨o4, q4, d4, rfl⟩ := shape' bx; obtain ⟨o5, q5, d5, rfl⟩ := shape' bY; obtain ⟨o6, q6, d6, rfl⟩ := shape' bz; have HA : Hid (NdV w4 (.agg #[.bool A.leaf, .slice o1 q1 d1, .slice o2 q2 d2, .slice o3 q3 d3]) A) := Lib.hid ⟨_, _, _, rfl, ax, ay, az⟩; have HB : Hid (NdV w4 (.agg #[.bool B.leaf, .slice o4 q4 d4, .slice o5 q5 d5, .slice o6 q6 d6]) B) := Lib.hid ⟨_, _, _, rfl, bx, bY, bz⟩; replace k1 := k1.keep0 g4; replace k2 := k2.keep0 g4; replace g4 := gb_trans g3 g4; have HCUT := Lib.hid hcut; clear hcut ax ay az bx bY bz)
    | ((with_reducible refine st_node rfl (w.heap.size + 1) 26 ?_ ?_ ?_ ?_ ?_ ?_ ?_ ?_ ?_ ?_ ?_ ?_ _ _ _ _ k1 ?_); rotate_left 10; (· rfl); (· rfl); intro w5 n5 g5; replace HA := Lib.hid (HA.out.keepN (Nbl.node k1) g5); replace HB := Lib.hid (HB.out.keepN (Nbl.node k1) g5); clear k1; replace k2 := k2.keep g5 (ne_some (by omega)); replace g4 := gb_step g4 g5 (by omega))
    | ((with_reducible refine st_node rfl (w.heap.size + 1 + 1) 26 ?_ ?_ ?_ ?_ ?_ ?_ ?_ ?_ ?_ ?_ ?_ ?_ _ _ _ _ k2 ?_); rotate_left 10; (· rfl); (· rfl); intro w6 n6 g6; replace HA := Lib.hid (HA.out.keepN (Nbl.node k2) g6); replace HB := Lib.hid (HB.out.keepN (Nbl.node k2) g6); clear k2; have k1 := n5.keep g6 (ne_some (by omega)); have k2 := n6; replace g4 := gb_step g4 g6 (by omega)))
  refine wp_region_noPanic ?_
  refine wp_region_held_drew (S := fun w' => w.grownBy w' none ∧ Blk w' (w.heap.size + 1) 26 #[.bool A.leaf, .slice o1 q1 d1, .slice o2 q2 d2, .slice o3 q3 d3] ∧ Blk w' (w.heap.size + 1 + 1) 26 #[.bool B.leaf, .slice o4 q4 d4, .slice o5 q5 d5, .slice o6 q6 d6] ∧ NdV w' (.agg #[.bool A.leaf, .slice o1 q1 d1, .slice o2 q2 d2, .slice o3 q3 d3]) A ∧ NdV w' (.agg #[.bool B.leaf, .slice o4 q4 d4, .slice o5 q5 d5, .slice o6 q6 d6]) B) (by kernel_rfl) ⟨gb_trans g4 (gb_drew _ _), k1.keep0 (gb_drew _ _), k2.keep0 (gb_drew _ _), HA.out.keep0 (gb_drew _ _), HB.out.keep0 (gb_drew _ _)⟩ (fun hHeld => ?_)
  refine wpAnyH_take (i := 0) (v := ?_) (List.getElem?_toArray.trans rfl) (by kernel_rfl) (by kernel_rfl) (by kernel_rfl) (fun _ _ _ h => h) (Or.inl ⟨by rfl, ?_⟩) hHeld ?_
  rotate_left
  · intro w' hSw; obtain ⟨hg, b1, b2, _, _⟩ := hSw; have p0 := b1.cell 0 rfl; have p1 := b1.cell 1 rfl; have p2 := b1.cell 2 rfl; have p3 := b1.cell 3 rfl; have r0 := b2.cell 0 rfl; have r1 := b2.cell 1 rfl; have r2 := b2.cell 2 rfl; have r3 := b2.cell 3 rfl; clear b1 b2; go_simp; try with_reducible rfl
  try simp only [Act.put, List.setIfInBounds_toArray, List.set_cons_zero, List.set_cons_succ]
  refine wpAnyH_take (i := 1) (v := ?_) (List.getElem?_toArray.trans rfl) (by kernel_rfl) (by kernel_rfl) (by kernel_rfl) (fun _ _ _ h => h) (Or.inl ⟨by rfl, ?_⟩) hHeld ?_
  rotate_left
  · intro w' hSw; obtain ⟨hg, b1, b2, _, _⟩ := hSw; have p0 := b1.cell 0 rfl; have p1 := b1.cell 1 rfl; have p2 := b1.cell 2 rfl; have p3 := b1.cell 3 rfl; have r0 := b2.cell 0 rfl; have r1 := b2.cell 1 rfl; have r2 := b2.cell 2 rfl; have r3 := b2.cell 3 rfl; clear b1 b2; go_simp; try with_reducible rfl
  try simp only [Act.put, List.setIfInBounds_toArray, List.set_cons_zero, List.set_cons_succ]
  refine wpAnyH_take (i := 2) (v := ?_) (List.getElem?_toArray.trans rfl) (by kernel_rfl) (by kernel_rfl) (by kernel_rfl) (fun _ _ _ h => h) (Or.inl ⟨by rfl, ?_⟩) hHeld ?_
  rotate_left
  · intro w' hSw; obtain ⟨hg, b1, b2, _, _⟩ := hSw; have p0 := b1.cell 0 rfl; have p1 := b1.cell 1 rfl; have p2 := b1.cell 2 rfl; have p3 := b1.cell 3 rfl; have r0 := b2.cell 0 rfl; have r1 := b2.cell 1 rfl; have r2 := b2.cell 2 rfl; have r3 := b2.cell 3 rfl; clear b1 b2; go_simp; try with_reducible rfl
  try simp only [Act.put, List.setIfInBounds_toArray, List.set_cons_zero, List.set_cons_succ]
  refine wpAnyH_ready (rs := [3]) (by kernel_rfl) (by simp) ?_
  refine AllReadyH.cons (List.getElem?_toArray.trans rfl) (fun K hK => ?_) AllReadyH.nil
  refine st_nodeO _ _ rfl (w.heap.size + 1) 26 A.leaf o1 o2 o3 q1 q2 q3 d1 d2 d3 rfl rfl _ _ _ _ hHeld.2.1 ?_
  intro wa na ga
  refine hK.out _ _ (⟨gb_step hHeld.1 ga (by omega), na, hHeld.2.2.1.keep ga (ne_some (by omega)), hHeld.2.2.2.1.keepN (Nbl.node hHeld.2.1) ga, hHeld.2.2.2.2.keepN (Nbl.node hHeld.2.1) ga⟩) (fun hHeld => ?_)
  clear hK K
  try simp only [Act.put, List.setIfInBounds_toArray, List.set_cons_zero, List.set_cons_succ]
  refine wpAnyH_ready (rs := [4]) (by kernel_rfl) (by simp) ?_
  refine AllReadyH.cons (List.getElem?_toArray.trans rfl) (fun K hK => ?_) AllReadyH.nil
  refine st_nodeO _ _ rfl (w.heap.size + 1 + 1) 26 B.leaf o4 o5 o6 q4 q5 q6 d4 d5 d6 rfl rfl _ _ _ _ hHeld.2.2.1 ?_
  intro wb nb gb
  refine hK.out _ _ (⟨gb_step hHeld.1 gb (by omega), hHeld.2.1.keep gb (ne_some (by omega)), nb, hHeld.2.2.2.1.keepN (Nbl.node hHeld.2.2.1) gb, hHeld.2.2.2.2.keepN (Nbl.node hHeld.2.2.1) gb⟩) (fun hHeld => ?_)
  clear hK K
  try simp only [Act.put, List.setIfInBounds_toArray, List.set_cons_zero, List.set_cons_succ]
  refine wpAnyH_take (i := 5) (v := ?_) (List.getElem?_toArray.trans rfl) (by kernel_rfl) (by kernel_rfl) (by kernel_rfl) (fun _ _ _ h => h) (Or.inl ⟨by rfl, ?_⟩) hHeld ?_
  rotate_left
  · intro w' hSw; obtain ⟨hg, b1, b2, _, _⟩ := hSw; have p0 := b1.cell 0 rfl; have p1 := b1.cell 1 rfl; have p2 := b1.cell 2 rfl; have p3 := b1.cell 3 rfl; have r0 := b2.cell 0 rfl; have r1 := b2.cell 1 rfl; have r2 := b2.cell 2 rfl; have r3 := b2.cell 3 rfl; clear b1 b2; go_simp; try with_reducible rfl
  try simp only [Act.put, List.setIfInBounds_toArray, List.set_cons_zero, List.set_cons_succ]
  refine wpAnyH_take (i := 6) (v := ?_) (List.getElem?_toArray.trans rfl) (by kernel_rfl) (by kernel_rfl) (by kernel_rfl) (fun _ _ _ h => h) (Or.inl ⟨by rfl, ?_⟩) hHeld ?_
  rotate_left
  · intro w' hSw; obtain ⟨hg, b1, b2, _, _⟩ := hSw; have p0 := b1.cell 0 rfl; have p1 := b1.cell 1 rfl; have p2 := b1.cell 2 rfl; have p3 := b1.cell 3 rfl; have r0 := b2.cell 0 rfl; have r1 := b2.cell 1 rfl; have r2 := b2.cell 2 rfl; have r3 := b2.cell 3 rfl; clear b1 b2; go_simp; try with_reducible rfl
  try simp only [Act.put, List.setIfInBounds_toArray, List.set_cons_zero, List.set_cons_succ]
  refine wpAnyH_done (by kernel_rfl) ?_ _
  refine NoPanic.normal ?_
  go_wp2
  refine bodyPost_ret (results_ccss rfl _ _ _ _ _ _ _ _ _ _ _ _ rfl hHeld.2.1 rfl hHeld.2.2.1) rfl ⟨r, A, B, key, _, _, ⟨hr1, ?_⟩, HCUT.out, rfl, hHeld.2.2.2.1, hHeld.2.2.2.2, hHeld.1⟩
  rw [HL.out]; exact HR.out.2
theorem split_no (v : Value) (n : Nd) (w : World) (h : NdV w v n) (ho : n.Lim) (hf : n.few = true) : Calls Tryz.prog 18 #[v] w (SplitNo w) := by
  obtain ⟨a, b, c, rfl, ha, hb, hc⟩ := h
  rcases hl : n.leaf with _ | _
  · exact splitNo_I a b c n w hl ha hb hc ho hf
  · exact splitNo_L a b c n w hl ha hb hc ho hf
theorem split_yes (v : Value) (n : Nd) (w : World) (h : NdV w v n) (ho : n.Lim) (hf : n.few = false) : Calls Tryz.prog 18 #[v] w (SplitYes n w) := by
  obtain ⟨a, b, c, rfl, ha, hb, hc⟩ := h
  rcases hl : n.leaf with _ | _
  · exact splitYes_I a b c n w hl ha hb hc ho hf
  · exact splitYes_L a b c n w hl ha hb hc ho hf
end Go.Proofs.YthhimhjegodklaaGreat.N11

