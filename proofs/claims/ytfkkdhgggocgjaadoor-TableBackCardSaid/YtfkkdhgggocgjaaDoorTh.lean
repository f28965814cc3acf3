/-
  The sectors of a chunk's pages by the chunk's text (table.rowOf), over this seat's translation; condition: the variable errors.errorType holds its type's handle.
-/
import Derived.Test.YtfkkdhgggocgjaaDoorTd
namespace Go.Proofs.YtfkkdhgggocgjaaDoor
open Go.RowKit

/-- A text of another length: a fault, at some place, is told beside a row. -/
def BadGot (w : World) (br : Nat) (s : ByteArray) (e : Ending) (w' : World) : Prop :=
  ∃ (a p : Nat) (c : Int) (L : List Nat), e = .returned (.tuple #[.agg (u16C L).toArray, .iface 67 (.pointer (some ⟨a, 0, none⟩))]) ∧ L.length = 120 ∧ w.heap.size ≤ a ∧ Ft w' a c p ∧ Rd w' br s p ∧ p ≤ s.size ∧ w.grownBy w' (some br)
theorem take_bad (br : Nat) (s : ByteArray) (w : World) (h : Rd w br s 0) (hs : s.size ≤ 9223372036854775807) (hb : s.size ≠ 240) :
    Calls Tryd.prog 51 #[.pointer (some ⟨br, 0, none⟩)] w (BadGot w br s) := by
  refine (take_any br s w h hs).mono ?_
  rintro e w' ⟨g, (⟨h1, a, he, ha, hf, hr⟩ | ⟨h1, _⟩ | ⟨h1, a, he, ha, hf, hr⟩)⟩
  · exact ⟨a, _, _, _, he, nots_length _, ha, hf, hr, by omega, g⟩
  · exact absurd h1 hb
  · exact ⟨a, 240, _, _, he, rowF_length s, ha, hf, hr, by omega, g⟩
theorem take_good (br : Nat) (s : ByteArray) (w : World) (h : Rd w br s 0) (hb : s.size = 240) :
    Calls Tryd.prog 51 #[.pointer (some ⟨br, 0, none⟩)] w fun e w' => e = .returned (.tuple #[.agg (u16C (rowF s)).toArray, .nilIface]) ∧ w.grownBy w' (some br) := by
  refine (take_any br s w h (by omega)).mono ?_
  rintro e w' ⟨g, (⟨h1, _⟩ | ⟨h1, he⟩ | ⟨h1, _⟩)⟩
  · omega
  · exact ⟨he, g⟩
  · omega
/-- What is told of a text: a fault's number and place; 0, if there is none. -/
def badB (n : Nat) : Bool := n == 1 || decide (1024 ≤ n)
def badAt (l : List Nat) : Nat := l.findIdx badB
def textC (s : ByteArray) : Nat × Nat := if s.size ≠ 240 then (4, s.size) else if badAt (rowF s) < 120 then (5, 2 * badAt (rowF s)) else (0, 0)
/-- What rowOf answers. -/
def RowGot (w : World) (s : ByteArray) (e : Ending) (w' : World) : Prop :=
  w.grownBy w' none ∧
  ((textC s).1 = 0 → e = .returned (.tuple #[.agg (u16C (rowF s)).toArray, .nilIface])) ∧
  ((textC s).1 ≠ 0 → ∃ a : Nat, e = .returned (.tuple #[.agg (u16C (nots 120)).toArray, .iface 67 (.pointer (some ⟨a, 0, none⟩))]) ∧ w.heap.size ≤ a ∧ Ft w' a ((textC s).1 : Nat) ((textC s).2 : Nat))
set_option linter.unusedSimpArgs false in
set_option maxRecDepth 100000 in
set_option maxHeartbeats 2000000 in
theorem rowOf_long (s : ByteArray) (w : World) (hd : Hd w) (hs : s.size ≤ 9223372036854775807) (hb : s.size ≠ 240) :
    Calls Tryd.prog 37 #[.string s] w fun e w' => w.grownBy w' none ∧ ∃ a : Nat, e = .returned (.tuple #[.agg (u16C (nots 120)).toArray, .iface 67 (.pointer (some ⟨a, 0, none⟩))]) ∧ w.heap.size ≤ a ∧ Ft w' a 4 (s.size : Nat) := by
  have hz := zero_row
  obtain ⟨Z, hZ⟩ : ∃ Z, (u16C (nots 120)).toArray = Z := ⟨_, rfl⟩
  rw [hZ] at hz
  have HZ := Lib.hid hZ
  have HD := Lib.hid hd
  have hd0 := hd.lt
  clear hZ hd
  go_enter Tryd.func37, Tryd.ntmps37
  go_wp2_with (first
    | (go_at_call 50; (with_reducible refine (new_any s _).mono ?_); rintro e w2 ⟨rfl, hw2⟩; have R2 : Rd w2 (w.heap.size + 1) s 0 := (by rw [hw2, ← World.size_alloc w (.cells Z 72)]; exact Blk.mk _ _ _); have B2 : Rw w2 w.heap.size (nots 120) := (by rw [hw2]; exact (Rw.mkZ w HZ.out).keep0 (gb_alloc _ _ _)); have g2 : w.grownBy w2 none := (by rw [hw2]; exact gb_trans (gb_alloc _ _ _) (gb_alloc _ _ _)); have s2 := R2.lt; clear hw2; simp only [World.size_alloc])
    | (go_at_call 51; (with_reducible refine (take_bad _ s _ R2 hs hb).mono ?_); rintro e w3 ⟨a, p, c, L, rfl, hL, ha, hf, hr, hp, g3⟩; have B3 := B2.keep g3 (ne_some (by omega)); have D3 := (HD.out.keep0 g2).keep g3 (ne_some (by omega)); have G3 := gb_step g2 g3 (by omega); have s3 := g3.size; have hi3 := rw_info hL; have hz3 : Z.size = (u16C L).toArray.size := (by rw [← HZ.out]; exact rw_size (nots_length _) hL); have ho3 := rw_one L; clear R2 B2 g2 g3; generalize (u16C L).toArray = C at hi3 hz3 ho3; have HI3 := Lib.hid (And.intro hi3 (And.intro hz3 ho3)); clear hi3 hz3 ho3)
    | (refine wpList_store_row rfl 72 (.tmp 5) (.tmp 15) rfl w3.heap.size C rfl rfl 72 _ (Blk.mk w3 72 Z) HI3.out.1 HI3.out.2.1 HI3.out.2.2 ?_; rw [World.setRow_alloc_new])
    | (go_at_call 34; (with_reducible refine (as_hit2 ⟨a, 0, none⟩ (w3.heap.size + 1) (.pointer none) _ (D3.keep0 (gb_trans (gb_alloc _ _ _) (gb_alloc _ _ _))) (by have := Blk.mk (w3.alloc (.cells C 72)) 67 #[.pointer none]; rw [World.size_alloc] at this; exact this)).mono ?_); rintro e w4 ⟨rfl, T4, g4⟩))
  have g40 : w3.grownBy w4 none := gb_later (gb_trans (gb_trans (gb_alloc w3 (.cells C 72) _) (gb_alloc _ (.cells #[.pointer none] 67) _)) g4) (by omega)
  have hf4 := hf.keep0 g40
  have hr4 := hr.keep0 g40
  have B4 := B3.keep0 g40
  have G4 := gb_trans G3 g40
  have s4 := g40.size
  have la := hf.lt
  have hsum : (p : Int) + ((s.size : Int) - (p : Int)) = (s.size : Int) := by omega
  have hsw : IntKind.i64.wrap (s.size : Int) = (s.size : Int) := IntWalk.i64_in _ (by omega)
  have HZ1 := Lib.hid (show (u16C (nots 120)).toArray.size = Z.size by rw [HZ.out])
  have hZ2 : (Tryd.prog.info? 72).map (·.size) = some Z.size := by rw [← HZ.out]; exact rw_info (nots_length _)
  have hZ3 : Z.all (·.oneCell') = true := by rw [← HZ.out]; exact rw_one _
  have HZ23 := Lib.hid (And.intro hZ2 hZ3)
  clear hf hr B3 G3 g40 g4 HI3 D3 hZ2 hZ3
  have lT := T4.lt
  have HH := Lib.hid (And.intro hf4 (And.intro hr4 (And.intro B4 (And.intro T4 G4))))
  clear hf4 hr4 B4 T4 G4
  refine wp_region_noPanic ?_
  refine wp_region_held_drew (S := fun w' => w4.grownBy w' (some w.heap.size)) (by kernel_rfl) (gb_drew _ _) (fun hHeld => ?_)
  refine wpAnyH_take (i := 0) (v := ?_) (List.getElem?_toArray.trans rfl) (by kernel_rfl) (by kernel_rfl) (by kernel_rfl) (fun _ _ _ h => h) (Or.inl ⟨by rfl, ?_⟩) hHeld ?_
  rotate_left
  · intro w' hSw; go_simp; try with_reducible rfl
  try simp only [Act.put, List.setIfInBounds_toArray, List.set_cons_zero, List.set_cons_succ]
  refine wpAnyH_take (i := 1) (v := ?_) (List.getElem?_toArray.trans rfl) (by kernel_rfl) (by kernel_rfl) (by kernel_rfl) (fun _ _ _ h => h) (Or.inl ⟨by rfl, ?_⟩) hHeld ?_
  rotate_left
  · intro w' hSw; have c7 := hSw.cell (Blk.cell HH.out.2.2.2.1 0 rfl) (ne_some (show w3.heap.size + 1 ≠ w.heap.size by omega)); go_simp; try with_reducible rfl
  try simp only [Act.put, List.setIfInBounds_toArray, List.set_cons_zero, List.set_cons_succ]
  refine wpAnyH_take (i := 2) (v := ?_) (List.getElem?_toArray.trans rfl) (by kernel_rfl) (by kernel_rfl) (by kernel_rfl) (fun _ _ _ h => h) (Or.inl ⟨by rfl, ?_⟩) hHeld ?_
  rotate_left
  · intro w' hSw; go_simp; try with_reducible rfl
  try simp only [Act.put, List.setIfInBounds_toArray, List.set_cons_zero, List.set_cons_succ]
  refine wpAnyH_take (i := 3) (v := ?_) (List.getElem?_toArray.trans rfl) (by kernel_rfl) (by kernel_rfl) (by kernel_rfl) (fun _ _ _ h => h) (Or.inl ⟨by rfl, ?_⟩) hHeld ?_
  rotate_left
  · intro w' hSw; go_simp; try with_reducible rfl
  try simp only [Act.put, List.setIfInBounds_toArray, List.set_cons_zero, List.set_cons_succ]
  refine wpAnyH_take (i := 4) (v := ?_) (List.getElem?_toArray.trans rfl) (by kernel_rfl) (by kernel_rfl) (by kernel_rfl) (fun _ _ _ h => h) (Or.inl ⟨by rfl, ?_⟩) hHeld ?_
  rotate_left
  · intro w' hSw; have c8 := hSw.cell (Blk.cell HH.out.1 1 rfl) (ne_some (show a ≠ w.heap.size by omega)); go_simp; try with_reducible rfl
  try simp only [Act.put, List.setIfInBounds_toArray, List.set_cons_zero, List.set_cons_succ]
  refine wpAnyH_take (i := 5) (v := ?_) (List.getElem?_toArray.trans rfl) (by kernel_rfl) (by kernel_rfl) (by kernel_rfl) (fun _ _ _ h => h) (Or.inl ⟨by rfl, ?_⟩) hHeld ?_
  rotate_left
  · intro w' hSw; go_simp; try with_reducible rfl
  try simp only [Act.put, List.setIfInBounds_toArray, List.set_cons_zero, List.set_cons_succ]
  refine wpAnyH_ready (rs := [6]) (by kernel_rfl) (by simp) ?_
  refine AllReadyH.cons (List.getElem?_toArray.trans rfl) (fun K hK => ?_) AllReadyH.nil
  go_simp
  go_at_call 52
  (with_reducible refine (left_any (w.heap.size + 1) s p _ (HH.out.2.1.keep0 (gb_drew _ _)) hp hs).mono ?_)
  rintro e w5 ⟨rfl, g5, hh5⟩
  clear hh5
  refine hK.out _ _ (gb_trans hHeld (gb_weak g5 _)) (fun hHeld => ?_)
  clear hK K
  try simp only [Act.put, List.setIfInBounds_toArray, List.set_cons_zero, List.set_cons_succ]
  have s5 := g5.size
  have g45 := gb_trans (gb_drew w4 none) g5
  have s45 := g45.size
  refine wpAnyH_take (i := 7) (v := ?_) (List.getElem?_toArray.trans rfl) (by kernel_rfl) (by kernel_rfl) (by kernel_rfl) (fun _ _ _ h => h) (Or.inl ⟨by rfl, ?_⟩) hHeld ?_
  rotate_left
  · intro w' hSw; go_simp; try with_reducible rfl
  try simp only [Act.put, List.setIfInBounds_toArray, List.set_cons_zero, List.set_cons_succ]
  refine wpAnyH_take (i := 8) (v := ?_) (List.getElem?_toArray.trans rfl) (by kernel_rfl) (by kernel_rfl) (by kernel_rfl) (fun _ _ _ h => h) (Or.inl ⟨by rfl, ?_⟩) hHeld ?_
  rotate_left
  · intro w' hSw; go_simp; try with_reducible rfl
  try simp only [Act.put, List.setIfInBounds_toArray, List.set_cons_zero, List.set_cons_succ]
  refine wpAnyH_ready (rs := [9, 11]) (by kernel_rfl) (by simp) ?_
  refine AllReadyH.cons (List.getElem?_toArray.trans rfl) (fun K hK => ?_) (AllReadyH.cons (List.getElem?_toArray.trans rfl) (fun K hK => ?_) AllReadyH.nil)
  · skip
    go_simp
    refine hK.out _ _ (gb_trans hHeld (gb_alloc _ _ _)) (fun hHeld => ?_)
    clear hK K
    try simp only [Act.put, List.setIfInBounds_toArray, List.set_cons_zero, List.set_cons_succ]
    refine wpAnyH_take (i := 10) (v := ?_) (List.getElem?_toArray.trans rfl) (by kernel_rfl) (by kernel_rfl) (by kernel_rfl) (fun _ _ _ h => h) (Or.inl ⟨by rfl, ?_⟩) hHeld ?_
    rotate_left
    · intro w' hSw; go_simp; try with_reducible rfl
    try simp only [Act.put, List.setIfInBounds_toArray, List.set_cons_zero, List.set_cons_succ]
    refine wpAnyH_ready (rs := [11]) (by kernel_rfl) (by simp) ?_
    refine AllReadyH.cons (List.getElem?_toArray.trans rfl) (fun K hK => ?_) AllReadyH.nil
    have hB := HH.out.2.2.1.keep0 (gb_trans g45 (gb_alloc w5 (.cells #[.int .i64 4, .int .i64 (s.size : Nat)] 40) none))
    with_reducible refine stA 72 (u16C (nots 120)).toArray Z 2 20 w.heap.size hB.blk HZ23.out.1 HZ1.out HZ23.out.2 ?hx ?hy ?_
    case hx => rfl
    case hy => rfl
    refine hK.out _ _ (gb_trans hHeld (gb_setRow _ _ _)) (fun hHeld => ?_)
    clear hK K
    try simp only [Act.put, List.setIfInBounds_toArray, List.set_cons_zero, List.set_cons_succ]
    refine wpAnyH_take (i := 12) (v := ?_) (List.getElem?_toArray.trans rfl) (by kernel_rfl) (by kernel_rfl) (by kernel_rfl) (fun _ _ _ h => h) (Or.inl ⟨by rfl, ?_⟩) hHeld ?_
    rotate_left
    · intro w' hSw; go_simp; try with_reducible rfl
    try simp only [Act.put, List.setIfInBounds_toArray, List.set_cons_zero, List.set_cons_succ]
    refine wpAnyH_done (by kernel_rfl) ?_ _
    refine NoPanic.normal ?_
    go_wp2
    refine bodyPost_ret (row_res rfl _ _ w.heap.size (nots 120) _ rfl rfl (by rw [← HZ.out]; exact hB.row (nots_length _))) rfl ⟨?_, w5.heap.size, rfl, by omega, ?_⟩
    · exact gb_step (gb_trans HH.out.2.2.2.2 (gb_trans g45 (gb_alloc w5 (.cells #[.int .i64 4, .int .i64 (s.size : Nat)] 40) none))) (gb_setRow _ _ _) (Nat.le_refl _)
    · exact Ft.keep (b := w5.heap.size) (c := 4) (p := (s.size : Nat)) (Blk.mk w5 _ _) (gb_setRow _ w.heap.size Z) (ne_some (show w5.heap.size ≠ w.heap.size by omega))
  · skip
    have hB := HH.out.2.2.1.keep0 g45
    with_reducible refine stA 72 (u16C (nots 120)).toArray Z 2 20 w.heap.size hB.blk HZ23.out.1 HZ1.out HZ23.out.2 ?hx ?hy ?_
    case hx => rfl
    case hy => rfl
    refine hK.out _ _ (gb_trans hHeld (gb_setRow _ _ _)) (fun hHeld => ?_)
    clear hK K
    try simp only [Act.put, List.setIfInBounds_toArray, List.set_cons_zero, List.set_cons_succ]
    refine wpAnyH_ready (rs := [9]) (by kernel_rfl) (by simp) ?_
    refine AllReadyH.cons (List.getElem?_toArray.trans rfl) (fun K hK => ?_) AllReadyH.nil
    go_simp
    refine hK.out _ _ (gb_trans hHeld (gb_alloc _ _ _)) (fun hHeld => ?_)
    clear hK K
    try simp only [Act.put, List.setIfInBounds_toArray, List.set_cons_zero, List.set_cons_succ]
    refine wpAnyH_take (i := 10) (v := ?_) (List.getElem?_toArray.trans rfl) (by kernel_rfl) (by kernel_rfl) (by kernel_rfl) (fun _ _ _ h => h) (Or.inl ⟨by rfl, ?_⟩) hHeld ?_
    rotate_left
    · intro w' hSw; go_simp; try with_reducible rfl
    try simp only [Act.put, List.setIfInBounds_toArray, List.set_cons_zero, List.set_cons_succ]
    refine wpAnyH_take (i := 12) (v := ?_) (List.getElem?_toArray.trans rfl) (by kernel_rfl) (by kernel_rfl) (by kernel_rfl) (fun _ _ _ h => h) (Or.inl ⟨by rfl, ?_⟩) hHeld ?_
    rotate_left
    · intro w' hSw; go_simp; try with_reducible rfl
    try simp only [Act.put, List.setIfInBounds_toArray, List.set_cons_zero, List.set_cons_succ]
    refine wpAnyH_done (by kernel_rfl) ?_ _
    refine NoPanic.normal ?_
    go_wp2
    have hN : (w5.setRow w.heap.size Z).heap.size = w5.heap.size := by simp
    refine bodyPost_ret (row_res rfl _ _ w.heap.size (nots 120) _ rfl rfl (by rw [← HZ.out]; exact (hB.row (nots_length _)).keep0 (gb_alloc _ _ _))) rfl ⟨?_, (w5.setRow w.heap.size Z).heap.size, by first | rfl | simp, by rw [hN]; omega, ?_⟩
    · exact gb_trans (gb_step (gb_trans HH.out.2.2.2.2 g45) (gb_setRow _ _ _) (Nat.le_refl _)) (gb_alloc _ _ _)
    · exact Blk.mk (w5.setRow w.heap.size Z) 40 #[.int .i64 4, .int .i64 (s.size : Nat)]
theorem badAt_hit {l : List Nat} {k : Nat} (hk : k < l.length) (h : badB (l.getD k 0) = true) (hb : ∀ j, j < k → badB (l.getD j 0) = false) : badAt l = k := by
  refine (List.findIdx_eq hk).2 ⟨?_, fun j hj => ?_⟩
  · rw [List.getD_eq_getElem?_getD, List.getElem?_eq_getElem hk] at h; exact h
  · have h1 := hb j hj
    rw [List.getD_eq_getElem?_getD, List.getElem?_eq_getElem (by omega)] at h1; exact h1
theorem badAt_none {l : List Nat} (hb : ∀ j, j < l.length → badB (l.getD j 0) = false) : ¬ badAt l < l.length := by
  intro h
  have h1 := List.findIdx_getElem (p := badB) (w := h)
  have h2 := hb _ h
  rw [List.getD_eq_getElem?_getD, List.getElem?_eq_getElem h] at h2
  have h3 : badB l[badAt l] = false := h2
  rw [show badB l[badAt l] = true from h1] at h3; cases h3
theorem badB_sect {x : Nat} (h : x ≠ 0) : badB x = !decide (IsSect (x : Int)) := by
  unfold badB
  by_cases h1 : x = 1
  · subst h1; rfl
  · by_cases h2 : 1024 ≤ x
    · rw [decide_eq_true h2, decide_eq_false (show ¬ IsSect (x : Int) from fun e => by have := e.2; omega)]; simp
    · rw [decide_eq_false h2, decide_eq_true (show IsSect (x : Int) from ⟨by omega, by omega⟩)]; simp [h1]
theorem rowF_small (s : ByteArray) (k : Nat) : (rowF s).getD k 0 < 65536 := by
  rcases Nat.lt_or_ge k 120 with h | h
  · rw [rowF_at s h]; have := valAt_lt s (2 * k) 2; omega
  · rw [List.getD_eq_getElem?_getD, List.getElem?_eq_none (by rw [rowF_length]; exact h)]; show (0 : Nat) < 65536; omega
set_option maxRecDepth 100000 in
set_option maxHeartbeats 2000000 in
theorem rowOf_240 (s : ByteArray) (w : World) (hd : Hd w) (hb : s.size = 240) :
    Calls Tryd.prog 37 #[.string s] w (RowGot w s) := by
  have hT : textC s = if badAt (rowF s) < 120 then (5, 2 * badAt (rowF s)) else (0, 0) := if_neg (by omega)
  have HT := Lib.hid hT
  have hlen := rowF_length s
  have hx := index_row (rowF s) hlen
  have hi3 := rw_info hlen
  have hz4 := rw_size (nots_length 120) hlen
  have ho3 := rw_one (rowF s)
  have hx0 := rowF_small s
  have hld : ∀ (b : Nat) (W : World), (loadVar 72 ⟨b, 0, none⟩).run Tryd.prog (W.alloc (.cells (u16C (rowF s)).toArray 72)) = (loadVar 72 ⟨b, 0, none⟩).run Tryd.prog (W.alloc (.cells (u16C (rowF s)).toArray 72)) := fun _ _ => rfl
  have hlo : ∀ (b : Nat) (W : World), Blk W b 72 (u16C (rowF s)).toArray → (loadVar 72 ⟨b, 0, none⟩).run Tryd.prog W = .ok (.agg (u16C (rowF s)).toArray) W := fun b W h => (show Rw W b (rowF s) from ⟨h, hlen⟩).load
  obtain ⟨C, hC⟩ : ∃ C, (u16C (rowF s)).toArray = C := ⟨_, rfl⟩
  rw [hC] at hx hi3 hz4 ho3 hlo
  have HCC := Lib.hid hC
  have HI3 := Lib.hid (And.intro hi3 ho3)
  have HLO := Lib.hid hlo
  have HX := Lib.hid hx
  have HX0 := Lib.hid hx0
  have HTG := Lib.hid (fun (br : Nat) (w : World) (h : Rd w br s 0) => by have := take_good br s w h hb; rw [hC] at this; exact this)
  clear hT hx hi3 ho3 hx0 hld hlo hC
  have hz := zero_row
  obtain ⟨Z, hZ⟩ : ∃ Z, (u16C (nots 120)).toArray = Z := ⟨_, rfl⟩
  rw [hZ] at hz
  have HZ := Lib.hid hZ
  have HD := Lib.hid hd
  have hd0 := hd.lt
  clear hZ hd
  go_enter Tryd.func37, Tryd.ntmps37
  go_wp2_with (first
    | (go_at_call 50; (with_reducible refine (new_any s _).mono ?_); rintro e w2 ⟨rfl, hw2⟩; have R2 : Rd w2 (w.heap.size + 1) s 0 := (by rw [hw2, ← World.size_alloc w (.cells Z 72)]; exact Blk.mk _ _ _); have B2 : Rw w2 w.heap.size (nots 120) := (by rw [hw2]; exact (Rw.mkZ w HZ.out).keep0 (gb_alloc _ _ _)); have g2 : w.grownBy w2 none := (by rw [hw2]; exact gb_trans (gb_alloc _ _ _) (gb_alloc _ _ _)); have s2 := R2.lt; clear hw2; simp only [World.size_alloc])
    | (go_at_call 51; (with_reducible refine (HTG.out _ _ R2).mono ?_); rintro e w3 ⟨rfl, g3⟩; have B3 := B2.keep g3 (ne_some (by omega)); have G3 := gb_step g2 g3 (by omega); have s3 := g3.size; have hz3 : Z.size = C.size := (by rw [← HZ.out]; exact hz4); have HZ3 := Lib.hid hz3; clear R2 B2 g2 g3 hz3)
    | (refine wpList_store_row rfl 72 (.tmp 5) (.tmp 15) rfl w3.heap.size C rfl rfl 72 _ (Blk.mk w3 72 Z) HI3.out.1 HZ3.out HI3.out.2 ?_; rw [World.setRow_alloc_new])
    | (go_at_call 34; (with_reducible refine (as_nil _ _).mono ?_); rintro e w4 ⟨rfl, rfl⟩)
    | (refine wpList_load_at rfl 72 (.tmp 5) rfl ⟨w3.heap.size, 0, none⟩ rfl _ (HLO.out _ _ ((Blk.mk w3 _ _).keep0 (gb_alloc _ _ _))) ?_))
  have k5 := (Blk.mk w3 72 C).keep0 (gb_alloc _ (.cells #[.pointer none] 67) none)
  have g4 : w3.grownBy ((w3.alloc (.cells C 72)).alloc (.cells #[.pointer none] 67)) none := gb_trans (gb_alloc _ _ _) (gb_alloc _ _ _)
  generalize (w3.alloc (.cells C 72)).alloc (.cells #[.pointer none] 67) = W4 at k5 g4 ⊢
  have B4 := B3.keep0 g4
  have G4 := gb_trans G3 g4
  have s4 := G4.size
  have HH := Lib.hid (And.intro B4 (And.intro G4 k5))
  clear B3 G3 g4 k5 B4 G4
  go_loopw [32] (fun i wr => ∃ k : Nat, k ≤ 120 ∧ i = .int .i64 k ∧ Hid (∀ j, j < k → badB ((rowF s).getD j 0) = false) ∧ W4 = wr) (fun i _ => 120 - (intOf i).toNat)
  case atStart => exact ⟨0, by omega, rfl, Lib.hid (fun j hj => by omega), rfl⟩
  case round =>
    obtain ⟨k, hk, rfl, HN, rfl⟩ := hrel
    by_cases hlt : k < 120
    · have hix := HX.out k hlt
      have hxb := HX0.out k
      obtain ⟨x, hxe⟩ : ∃ x, (rowF s).getD k 0 = x := ⟨_, rfl⟩
      rw [hxe] at hix hxb
      have HE := Lib.hid hxe
      have hxw : IntKind.i64.wrap (x : Int) = (x : Int) := IntWalk.i64_in _ (by omega)
      clear hxe
      by_cases h0 : x = 0
      · subst h0
        go_wp2
        go_roundw
        case rel =>
          refine ⟨k + 1, by omega, by go_num, Lib.hid (fun j hj => ?_), by simp⟩
          rcases Nat.lt_or_ge j k with h | h
          · exact HN.out j h
          · obtain rfl : j = k := by omega
            rw [HE.out]; rfl
        case measure => simp [intOf]; omega
      · have hne : ((x : Int) != 0) = true := by simp; omega
        have hne2 : ((x : Int) == 0) = false := by simp; omega
        have HBB := Lib.hid (badB_sect h0)
        by_cases hsc : IsSect (x : Int)
        · have HSC := Lib.hid hsc
          clear hsc
          go_wp2_with (go_at_call 30; (with_reducible refine (isSect_is _ (decide_eq_true HSC.out)).mono ?_); rintro e w' ⟨rfl, rfl⟩)
          go_roundw
          case rel =>
            refine ⟨k + 1, by omega, by go_num, Lib.hid (fun j hj => ?_), by simp⟩
            rcases Nat.lt_or_ge j k with h | h
            · exact HN.out j h
            · obtain rfl : j = k := by omega
              rw [HE.out, HBB.out, decide_eq_true HSC.out]; rfl
          case measure => simp [intOf]; omega
        · have HSC := Lib.hid hsc
          have hbk := badAt_hit (l := rowF s) (k := k) (by rw [hlen]; exact hlt) (by rw [HE.out, HBB.out, decide_eq_false HSC.out]; rfl) HN.out
          have HT2 : Hid (textC s = (5, 2 * k)) := Lib.hid (by rw [HT.out, hbk, if_pos hlt])
          have hm : (k : Int) * 2 = ((2 * k : Nat) : Int) := by omega
          have hmw : IntKind.i64.wrap ((2 * k : Nat) : Int) = ((2 * k : Nat) : Int) := IntWalk.i64_in _ (by omega)
          obtain ⟨m, hme⟩ : ∃ m, 2 * k = m := ⟨_, rfl⟩
          rw [hme] at hm hmw HT2
          have HZ2 := Lib.hid (show (Tryd.prog.info? 72).map (·.size) = some Z.size by rw [← HZ.out]; exact rw_info (nots_length _))
          have HZ4 := Lib.hid (show (u16C (nots 120)).toArray.size = Z.size by rw [HZ.out])
          have HZ5 := Lib.hid (show Z.all (·.oneCell') = true by rw [← HZ.out]; exact rw_one _)
          clear hsc hbk hme
          go_wp2_with (first
            | (go_at_call 30; (with_reducible refine (isSect_is _ (decide_eq_false HSC.out)).mono ?_); rintro e w' ⟨rfl, rfl⟩)
            | (refine wpList_store_row rfl 72 (.tmp 2) (.tmp 44) rfl w.heap.size Z rfl rfl 72 _ (HH.out.1.keep0 (gb_alloc _ _ _)).blk HZ2.out HZ4.out HZ5.out ?_))
          have hRw := (HH.out.1.keep0 (gb_alloc W4 (.cells #[.int .i64 5, .int .i64 (m : Nat)] 40) none)).row (nots_length 120)
          rw [HZ.out] at hRw
          refine bodyPost_ret (row_res rfl _ _ w.heap.size (nots 120) _ rfl rfl hRw) rfl ⟨?_, fun h => ?_, fun _ => ⟨W4.heap.size, rfl, s4, ?_⟩⟩
          · exact gb_step (gb_trans HH.out.2.1 (gb_alloc W4 (.cells #[.int .i64 5, .int .i64 (m : Nat)] 40) none)) (gb_setRow _ _ _) (Nat.le_refl _)
          · rw [HT2.out] at h; cases h
          · rw [HT2.out]
            exact Ft.keep (b := W4.heap.size) (c := 5) (p := (m : Nat)) (Blk.mk W4 _ _) (gb_setRow _ w.heap.size Z) (ne_some (Nat.ne_of_gt HH.out.1.blk.lt))
    · obtain rfl : k = 120 := by omega
      have hno := badAt_none (l := rowF s) (fun j hj => HN.out j (by rw [hlen] at hj; exact hj))
      rw [hlen] at hno
      have HT2 : Hid (textC s = (0, 0)) := Lib.hid (by rw [HT.out, if_neg hno])
      have HZ4 := Lib.hid (show (u16C (nots 120)).toArray.size = C.size by rw [HZ.out]; exact HZ3.out)
      clear hno
      go_wp2_with (first
        | (refine wpList_load_at rfl 72 (.tmp 5) rfl ⟨w3.heap.size, 0, none⟩ rfl _ (HLO.out _ _ HH.out.2.2) ?_)
        | (refine wpList_store_row rfl 72 (.tmp 2) (.tmp 51) rfl w.heap.size C rfl rfl 72 _ HH.out.1.blk HI3.out.1 HZ4.out HI3.out.2 ?_))
      have hRw := HH.out.1.row hlen
      rw [HCC.out] at hRw
      refine bodyPost_ret (row_res rfl _ _ w.heap.size (rowF s) _ rfl rfl hRw) rfl ⟨?_, fun _ => rfl, fun h => ?_⟩
      · exact gb_step HH.out.2.1 (gb_setRow _ _ _) (Nat.le_refl _)
      · rw [HT2.out] at h; exact absurd rfl h
theorem rowOf_any (s : ByteArray) (w : World) (hd : Hd w) (hs : s.size ≤ 9223372036854775807) :
    Calls Tryd.prog 37 #[.string s] w (RowGot w s) := by
  by_cases hb : s.size = 240
  · exact rowOf_240 s w hd hb
  · have hT : textC s = (4, s.size) := if_pos hb
    refine (rowOf_long s w hd hs hb).mono ?_
    rintro e w' ⟨g, h⟩
    refine ⟨g, fun h0 => ?_, fun _ => ?_⟩
    · rw [hT] at h0; cases h0
    · rw [hT]; exact h
end Go.Proofs.YtfkkdhgggocgjaaDoor

