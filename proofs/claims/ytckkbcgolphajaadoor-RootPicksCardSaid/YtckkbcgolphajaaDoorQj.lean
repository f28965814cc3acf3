/-
  RootPicks: which root counts, of any bytes, roots' sectors, blank ones, and those of which a byte is turned: what the statement's function answers; conditions: the drafts' numbers fit, the table of places lies as the program's text lays it.
-/
import Derived.Test.YtckkbcgolphajaaDoorQo
import Derived.Test.YtckkbcgolphajaaDoorQi
namespace Go.Proofs.YtckkbcgolphajaaDoor
open Go.RowKit

theorem refPut_c (r : Rt) (w : World) (hr : Fit r) : Calls Tryd.prog 11 #[.agg (rootC r).toArray] w fun e w' => e = .returned (.tuple #[.string (putB r), .int .i64 (putC r : Nat)]) ∧ w.grownBy w' none := refPut_b r w hr
theorem three_at (w : World) (C C2 : Array Value) (x y : Value) : Blk (((w.alloc (.cells C 29)).alloc (.cells C2 29)).alloc (.cells #[x, y] 41)) w.heap.size 29 C ∧ Blk (((w.alloc (.cells C 29)).alloc (.cells C2 29)).alloc (.cells #[x, y] 41)) (w.heap.size + 1) 29 C2 ∧ Blk (((w.alloc (.cells C 29)).alloc (.cells C2 29)).alloc (.cells #[x, y] 41)) (w.heap.size + 2) 41 #[x, y] ∧ w.grownBy (((w.alloc (.cells C 29)).alloc (.cells C2 29)).alloc (.cells #[x, y] 41)) none := by
  refine ⟨Blk.keep0 (Blk.keep0 (Blk.mk w _ _) (gb_alloc _ _ none)) (gb_alloc _ _ none), Blk.keep0 (two_drafts w C C2) (gb_alloc _ _ none), ?_, gb_trans (gb_trans (gb_alloc _ _ none) (gb_alloc _ _ none)) (gb_alloc _ _ none)⟩
  have := Blk.mk ((w.alloc (.cells C 29)).alloc (.cells C2 29)) 41 #[x, y]
  rwa [World.size_alloc, World.size_alloc] at this
/-- A new slice of 256 noughts; a list of texts. -/
def IsZ (w : World) (v : Value) : Prop := ∃ b : Nat, v = .slice (some ⟨b, 0, none⟩) 256 256 ∧ Blk w b 5 (bytesC (zer 256)).toArray
theorem IsZ.keep0 {w w' : World} {v : Value} (h : IsZ w v) (g : w.grownBy w' none) : IsZ w' v := by
  obtain ⟨b, h1, h2⟩ := h
  exact ⟨b, h1, h2.keep0 g⟩
def Lst (w : World) (v : Value) (l : List ByteArray) : Prop := ∃ b : Nat, v = .slice (some ⟨b, 0, none⟩) 7 7 ∧ Blk w b 9 (strsC l).toArray
theorem Lst.keep0 {w w' : World} {v : Value} {l : List ByteArray} (h : Lst w v l) (g : w.grownBy w' none) : Lst w' v l := by
  obtain ⟨b, h1, h2⟩ := h
  exact ⟨b, h1, h2.keep0 g⟩
theorem isZ_text {w : World} {v : Value} (h : IsZ w v) : (convert 43 9 v).run Tryd.prog w = .ok (.string zeroB) w := by
  obtain ⟨b, rfl, h2⟩ := h
  exact blk_text h2 256 256 (zer_length 256).symm
/-- How far the list is made. -/
structure Far (listed : Array Bool) (w : World) (X Y X1 Y1 Z1 : ByteArray) (v43 v49 v50 v51 v52 v53 v58 v59 v11 : Value) : Prop where
  a7 : listed.getD 7 false = true → v43 = .string X1
  a13 : listed.getD 13 false = true → v49 = .string Y1
  a14 : listed.getD 14 false = true → IsZ w v50
  a15 : listed.getD 15 false = true → v51 = .string zeroB
  a16 : listed.getD 16 false = true → IsZ w v52
  a17 : listed.getD 17 false = true → v53 = .string zeroB
  a22 : listed.getD 22 false = true → v58 = .string Z1
  a23 : listed.getD 23 false = true → Lst w v59 [X, Y, X1, Y1, zeroB, ⟨#[]⟩, Z1]
  a24 : listed.getD 24 false = true → listed.getD 23 false = true ∧ v11 = v59
theorem strs_at (L : List ByteArray) (i : Nat) (h : i < L.length) : (strsC L).toArray[i]? = some (.string (L.getD i ⟨#[]⟩)) := by
  rw [List.getElem?_toArray]
  simp [strsC, List.getD_eq_getElem?_getD, h]
theorem pick_parts (l r : List UInt8) : ∃ (x : Rt) (i : Int) (n : Nat), pickF l r = (x, i, n) ∧ x.cs.length = 8 := by
  obtain ⟨x, n, h1, h2, _⟩ := get_parts l
  obtain ⟨y, m, k1, k2, _⟩ := get_parts r
  unfold pickF
  rw [h1, k1]
  split
  · exact ⟨x, 0, 0, rfl, h2⟩
  split
  · exact ⟨y, 1, 0, rfl, k2⟩
  split
  · exact ⟨zeroR, -1, 9, rfl, rfl⟩
  · exact ⟨zeroR, -1, 29, rfl, rfl⟩
set_option maxRecDepth 100000 in
set_option linter.unusedSimpArgs false in
set_option maxHeartbeats 8000000 in
theorem picks_any (e s odd : Nat) (cs : List Nat) (hf : FitD e s odd cs) (e' s' odd' : Nat) (cs' : List Nat) (hf' : FitD e' s' odd' cs') (a b : UInt8) (w : World) (hPl : Pl w) :
    Calls Tryd.prog 4 #[.agg (draftC e s odd cs).toArray, .agg (draftC e' s' odd' cs').toArray, .agg #[.int .u8 (a.toNat : Nat), .int .u8 (b.toNat : Nat)]] w (TrueGot w) := by
  have HDI := Lib.hid (draft_info e s odd cs hf.2.2.2.1)
  have HDI2 := Lib.hid (draft_info e' s' odd' cs' hf'.2.2.2.1)
  obtain ⟨C, hC⟩ : ∃ C, (draftC e s odd cs).toArray = C := ⟨_, rfl⟩
  obtain ⟨C2, hC2⟩ : ∃ C, (draftC e' s' odd' cs').toArray = C := ⟨_, rfl⟩
  have HDr := Lib.hid (fun W => some_root hf C hC W)
  have HDr2 := Lib.hid (fun W => some_root hf' C2 hC2 W)
  rw [hC] at HDI
  rw [hC2] at HDI2
  rw [hC, hC2]
  clear hC hC2 hf hf'
  have HPl := Lib.hid hPl
  clear hPl
  have HWk := Lib.hid (fun W (g : w.grownBy W none) => works_any W (HPl.out.keep0 g))
  unfold TrueGot at HWk
  have D := Lib.hid (three_at w C C2 (.int .u8 (a.toNat : Nat)) (.int .u8 (b.toNat : Nat)))
  go_enter Tryd.func4, Tryd.ntmps4
  go_wp2_with (first
    | (refine wpList_load_row rfl 29 (.tmp 3) rfl w.heap.size rfl 29 C (0, 0) _ D.out.1 Tryd.underlying29 rfl HDI.out ?_)
    | (go_at_call 9; (with_reducible refine (HDr.out _).mono ?_); rintro e v1 ⟨x, hx, rfl, g1⟩; have gg := gb_trans D.out.2.2.2 g1; have d1 := Blk.keep0 D.out.2.1 g1; have d2 := Blk.keep0 D.out.2.2.1 g1; have HPx := Lib.hid (fun W => refPut_c x W hx))
    | (go_at_call 11; (with_reducible refine (HPx.out _).mono ?_); rintro e v2 ⟨rfl, g2⟩; have gg := gb_trans gg g2; have d1 := Blk.keep0 d1 g2; have d2 := Blk.keep0 d2 g2)
    | (refine wpList_load_row rfl 29 (.tmp 4) rfl (w.heap.size + 1) rfl 29 C2 (0, 0) _ d1 Tryd.underlying29 rfl HDI2.out ?_)
    | (go_at_call 9; (with_reducible refine (HDr2.out _).mono ?_); rintro e v3 ⟨y, hy, rfl, g3⟩; have gg := gb_trans gg g3; have d2 := Blk.keep0 d2 g3; have HPy := Lib.hid (fun W => refPut_c y W hy))
    | (go_at_call 11; (with_reducible refine (HPy.out _).mono ?_); rintro e v4 ⟨rfl, g4⟩; have gg := gb_trans gg g4; have d2 := Blk.keep0 d2 g4)
    | fail)
  have HTx := Lib.hid (fun W => turned_any (putB x) W a b (by have := putB_size x hx.len; omega))
  have HTy := Lib.hid (fun W => turned_any (putB y) W a b (by have := putB_size y hy.len; omega))
  have HTz := Lib.hid (fun W => turned_any zeroB W a b (by rw [zeroB_size]; decide))
  generalize turnB (putB x) a b = X1 at HTx
  generalize turnB (putB y) a b = Y1 at HTy
  generalize turnB zeroB a b = Z1 at HTz
  generalize putC x = cx at *
  generalize putC y = cy at *
  generalize putB x = X at HTx ⊢
  generalize putB y = Y at HTy ⊢
  have D2 := Lib.hid d2
  have GG := Lib.hid gg
  clear HPx HPy d1 d2 gg g1 g2 g3 g4
  refine wp_region_noPanic ?_
  refine wp_region_held_drew (S := fun w' => v4.grownBy w' none) (by kernel_rfl) (gb_drew _ _) (fun hHeld => ?_)
  refine wpAnyH_take (i := 0) (v := ?_) (List.getElem?_toArray.trans rfl) (by kernel_rfl) (by kernel_rfl) (by kernel_rfl) (fun _ _ _ h => h) (Or.inl ⟨by rfl, ?_⟩) hHeld ?_
  rotate_left
  · intro w' hSw; go_simp; try with_reducible rfl
  try simp only [Act.put, List.setIfInBounds_toArray, List.set_cons_zero, List.set_cons_succ]
  refine wpAnyH_take (i := 1) (v := ?_) (List.getElem?_toArray.trans rfl) (by kernel_rfl) (by kernel_rfl) (by kernel_rfl) (fun _ _ _ h => h) (Or.inl ⟨by rfl, ?_⟩) hHeld ?_
  rotate_left
  · intro w' hSw; go_simp; try with_reducible rfl
  try simp only [Act.put, List.setIfInBounds_toArray, List.set_cons_zero, List.set_cons_succ]
  refine wpAnyH_take (i := 2) (v := ?_) (List.getElem?_toArray.trans rfl) (by kernel_rfl) (by kernel_rfl) (by kernel_rfl) (fun _ _ _ h => h) (Or.inl ⟨by rfl, ?_⟩) hHeld ?_
  rotate_left
  · intro w' hSw; go_simp; try with_reducible rfl
  try simp only [Act.put, List.setIfInBounds_toArray, List.set_cons_zero, List.set_cons_succ]
  refine wpAnyH_take (i := 3) (v := ?_) (List.getElem?_toArray.trans rfl) (by kernel_rfl) (by kernel_rfl) (by kernel_rfl) (fun _ _ _ h => h) (Or.inl ⟨by rfl, ?_⟩) hHeld ?_
  rotate_left
  · intro w' hSw; go_simp; try with_reducible rfl
  try simp only [Act.put, List.setIfInBounds_toArray, List.set_cons_zero, List.set_cons_succ]
  refine wpAnyH_take (i := 4) (v := ?_) (List.getElem?_toArray.trans rfl) (by kernel_rfl) (by kernel_rfl) (by kernel_rfl) (fun _ _ _ h => h) (Or.inl ⟨by rfl, ?_⟩) hHeld ?_
  rotate_left
  · intro w' hSw; have hc0 := Blk.cell (Blk.keep0 D2.out hSw) 0 rfl; have hc1 := Blk.cell (Blk.keep0 D2.out hSw) 1 rfl; go_simp; try with_reducible rfl
  try simp only [Act.put, List.setIfInBounds_toArray, List.set_cons_zero, List.set_cons_succ]
  refine wpAnyH_take (i := 5) (v := ?_) (List.getElem?_toArray.trans rfl) (by kernel_rfl) (by kernel_rfl) (by kernel_rfl) (fun _ _ _ h => h) (Or.inl ⟨by rfl, ?_⟩) hHeld ?_
  rotate_left
  · intro w' hSw; go_simp; try with_reducible rfl
  try simp only [Act.put, List.setIfInBounds_toArray, List.set_cons_zero, List.set_cons_succ]
  refine wpAnyH_take (i := 6) (v := ?_) (List.getElem?_toArray.trans rfl) (by kernel_rfl) (by kernel_rfl) (by kernel_rfl) (fun _ _ _ h => h) (Or.inl ⟨by rfl, ?_⟩) hHeld ?_
  rotate_left
  · intro w' hSw; have hc0 := Blk.cell (Blk.keep0 D2.out hSw) 0 rfl; have hc1 := Blk.cell (Blk.keep0 D2.out hSw) 1 rfl; go_simp; try with_reducible rfl
  try simp only [Act.put, List.setIfInBounds_toArray, List.set_cons_zero, List.set_cons_succ]
  refine wpAnyH_take (i := 8) (v := ?_) (List.getElem?_toArray.trans rfl) (by kernel_rfl) (by kernel_rfl) (by kernel_rfl) (fun _ _ _ h => h) (Or.inl ⟨by rfl, ?_⟩) hHeld ?_
  rotate_left
  · intro w' hSw; go_simp; try with_reducible rfl
  try simp only [Act.put, List.setIfInBounds_toArray, List.set_cons_zero, List.set_cons_succ]
  refine wpAnyH_take (i := 9) (v := ?_) (List.getElem?_toArray.trans rfl) (by kernel_rfl) (by kernel_rfl) (by kernel_rfl) (fun _ _ _ h => h) (Or.inl ⟨by rfl, ?_⟩) hHeld ?_
  rotate_left
  · intro w' hSw; go_simp; try with_reducible rfl
  try simp only [Act.put, List.setIfInBounds_toArray, List.set_cons_zero, List.set_cons_succ]
  refine wpAnyH_take (i := 10) (v := ?_) (List.getElem?_toArray.trans rfl) (by kernel_rfl) (by kernel_rfl) (by kernel_rfl) (fun _ _ _ h => h) (Or.inl ⟨by rfl, ?_⟩) hHeld ?_
  rotate_left
  · intro w' hSw; have hc0 := Blk.cell (Blk.keep0 D2.out hSw) 0 rfl; have hc1 := Blk.cell (Blk.keep0 D2.out hSw) 1 rfl; go_simp; try with_reducible rfl
  try simp only [Act.put, List.setIfInBounds_toArray, List.set_cons_zero, List.set_cons_succ]
  refine wpAnyH_take (i := 11) (v := ?_) (List.getElem?_toArray.trans rfl) (by kernel_rfl) (by kernel_rfl) (by kernel_rfl) (fun _ _ _ h => h) (Or.inl ⟨by rfl, ?_⟩) hHeld ?_
  rotate_left
  · intro w' hSw; go_simp; try with_reducible rfl
  try simp only [Act.put, List.setIfInBounds_toArray, List.set_cons_zero, List.set_cons_succ]
  refine wpAnyH_take (i := 12) (v := ?_) (List.getElem?_toArray.trans rfl) (by kernel_rfl) (by kernel_rfl) (by kernel_rfl) (fun _ _ _ h => h) (Or.inl ⟨by rfl, ?_⟩) hHeld ?_
  rotate_left
  · intro w' hSw; have hc0 := Blk.cell (Blk.keep0 D2.out hSw) 0 rfl; have hc1 := Blk.cell (Blk.keep0 D2.out hSw) 1 rfl; go_simp; try with_reducible rfl
  try simp only [Act.put, List.setIfInBounds_toArray, List.set_cons_zero, List.set_cons_succ]
  refine wpAnyH_take (i := 18) (v := ?_) (List.getElem?_toArray.trans rfl) (by kernel_rfl) (by kernel_rfl) (by kernel_rfl) (fun _ _ _ h => h) (Or.inl ⟨by rfl, ?_⟩) hHeld ?_
  rotate_left
  · intro w' hSw; go_simp; try with_reducible rfl
  try simp only [Act.put, List.setIfInBounds_toArray, List.set_cons_zero, List.set_cons_succ]
  refine wpAnyH_take (i := 19) (v := ?_) (List.getElem?_toArray.trans rfl) (by kernel_rfl) (by kernel_rfl) (by kernel_rfl) (fun _ _ _ h => h) (Or.inl ⟨by rfl, ?_⟩) hHeld ?_
  rotate_left
  · intro w' hSw; have hc0 := Blk.cell (Blk.keep0 D2.out hSw) 0 rfl; have hc1 := Blk.cell (Blk.keep0 D2.out hSw) 1 rfl; go_simp; try with_reducible rfl
  try simp only [Act.put, List.setIfInBounds_toArray, List.set_cons_zero, List.set_cons_succ]
  refine wpAnyH_take (i := 20) (v := ?_) (List.getElem?_toArray.trans rfl) (by kernel_rfl) (by kernel_rfl) (by kernel_rfl) (fun _ _ _ h => h) (Or.inl ⟨by rfl, ?_⟩) hHeld ?_
  rotate_left
  · intro w' hSw; go_simp; try with_reducible rfl
  try simp only [Act.put, List.setIfInBounds_toArray, List.set_cons_zero, List.set_cons_succ]
  refine wpAnyH_take (i := 21) (v := ?_) (List.getElem?_toArray.trans rfl) (by kernel_rfl) (by kernel_rfl) (by kernel_rfl) (fun _ _ _ h => h) (Or.inl ⟨by rfl, ?_⟩) hHeld ?_
  rotate_left
  · intro w' hSw; have hc0 := Blk.cell (Blk.keep0 D2.out hSw) 0 rfl; have hc1 := Blk.cell (Blk.keep0 D2.out hSw) 1 rfl; go_simp; try with_reducible rfl
  try simp only [Act.put, List.setIfInBounds_toArray, List.set_cons_zero, List.set_cons_succ]
  refine wpAnyH_inv (rs := [7, 13, 14, 15, 16, 17, 22, 23, 24]) (I := fun listed act w' => ∃ v43 v49 v50 v51 v52 v53 v58 v59 v11 : Value, act = ⟨#[.agg C, .agg C2, .agg #[.int .u8 (a.toNat : Nat), .int .u8 (b.toNat : Nat)], .pointer (some ⟨w.heap.size, 0, none⟩), .pointer (some ⟨w.heap.size + 1, 0, none⟩), .pointer (some ⟨w.heap.size + 1 + 1, 0, none⟩), .bool false, .string X, .int .i64 (cx : Nat), .string Y, .int .i64 (cy : Nat), v11, undef, undef, undef, undef, undef, undef, undef, undef, undef, undef, undef, undef, .tuple #[.string X, .int .i64 (cx : Nat)], .agg C, .agg (rootC x).toArray, .tuple #[.string X, .int .i64 (cx : Nat)], .string X, .int .i64 (cx : Nat), .tuple #[.string Y, .int .i64 (cy : Nat)], .agg C2, .agg (rootC y).toArray, .tuple #[.string Y, .int .i64 (cy : Nat)], .string Y, .int .i64 (cy : Nat), .string X, .string Y, .string X, .pointer (some ⟨w.heap.size + 1 + 1, 0, none⟩), .int .u8 (a.toNat : Nat), .pointer (some ⟨w.heap.size + 1 + 1, 1, none⟩), .int .u8 (b.toNat : Nat), v43, .string Y, .pointer (some ⟨w.heap.size + 1 + 1, 0, none⟩), .int .u8 (a.toNat : Nat), .pointer (some ⟨w.heap.size + 1 + 1, 1, none⟩), .int .u8 (b.toNat : Nat), v49, v50, v51, v52, v53, .pointer (some ⟨w.heap.size + 1 + 1, 0, none⟩), .int .u8 (a.toNat : Nat), .pointer (some ⟨w.heap.size + 1 + 1, 1, none⟩), .int .u8 (b.toNat : Nat), v58, v59, undef, undef, undef, undef, undef, undef, undef, undef, undef, undef, undef, undef, undef, undef, undef, undef, undef, undef, undef, undef, undef, undef, undef, undef, undef, undef, undef, undef, undef, undef, undef, undef, undef, undef, undef, undef, undef, undef, undef, undef, undef, undef, undef, undef, undef, undef, undef, undef, undef, undef, undef, undef, undef, undef, undef, undef, undef, undef, undef, undef, undef, undef, undef, undef, undef, undef, undef, undef, undef, undef, undef, undef, undef, undef, undef, undef], []⟩ ∧ Far listed w' X Y X1 Y1 Z1 v43 v49 v50 v51 v52 v53 v58 v59 v11) (by kernel_rfl) (by kernel_rfl) (by kernel_rfl) (by kernel_rfl) hHeld ⟨_, _, _, _, _, _, _, _, _, rfl, ?_⟩ ?_ ?_
  · exact ⟨(fun h => by first | (cases h; done) | exact absurd h (by decide)), (fun h => by first | (cases h; done) | exact absurd h (by decide)), (fun h => by first | (cases h; done) | exact absurd h (by decide)), (fun h => by first | (cases h; done) | exact absurd h (by decide)), (fun h => by first | (cases h; done) | exact absurd h (by decide)), (fun h => by first | (cases h; done) | exact absurd h (by decide)), (fun h => by first | (cases h; done) | exact absurd h (by decide)), (fun h => by first | (cases h; done) | exact absurd h (by decide)), (fun h => by first | (cases h; done) | exact absurd h (by decide))⟩
  · skip
    refine StepsI.cons (List.getElem?_toArray.trans rfl) (fun listed act w' hSw hI hlt hun hdep K hK => ?_) ?_
    · obtain ⟨v43, v49, v50, v51, v52, v53, v58, v59, v11, rfl, hF⟩ := hI
      go_simp
      go_at_call 17
      (with_reducible refine (HTx.out _).mono ?_)
      rintro e u ⟨rfl, g⟩
      exact hK.out _ _ (gb_trans hSw g) ⟨_, _, _, _, _, _, _, _, _, rfl, ⟨fun _ => rfl, fun h => hF.a13 (by rw [set_other (by decide)] at h; exact h), fun h => (hF.a14 (by rw [set_other (by decide)] at h; exact h)).keep0 g, fun h => hF.a15 (by rw [set_other (by decide)] at h; exact h), fun h => (hF.a16 (by rw [set_other (by decide)] at h; exact h)).keep0 g, fun h => hF.a17 (by rw [set_other (by decide)] at h; exact h), fun h => hF.a22 (by rw [set_other (by decide)] at h; exact h), fun h => (hF.a23 (by rw [set_other (by decide)] at h; exact h)).keep0 g, fun h => (fun q => ⟨by rw [set_other (by decide)]; exact q.1, q.2⟩) (hF.a24 (by rw [set_other (by decide)] at h; exact h))⟩⟩
    refine StepsI.cons (List.getElem?_toArray.trans rfl) (fun listed act w' hSw hI hlt hun hdep K hK => ?_) ?_
    · obtain ⟨v43, v49, v50, v51, v52, v53, v58, v59, v11, rfl, hF⟩ := hI
      go_simp
      go_at_call 17
      (with_reducible refine (HTy.out _).mono ?_)
      rintro e u ⟨rfl, g⟩
      exact hK.out _ _ (gb_trans hSw g) ⟨_, _, _, _, _, _, _, _, _, rfl, ⟨fun h => hF.a7 (by rw [set_other (by decide)] at h; exact h), fun _ => rfl, fun h => (hF.a14 (by rw [set_other (by decide)] at h; exact h)).keep0 g, fun h => hF.a15 (by rw [set_other (by decide)] at h; exact h), fun h => (hF.a16 (by rw [set_other (by decide)] at h; exact h)).keep0 g, fun h => hF.a17 (by rw [set_other (by decide)] at h; exact h), fun h => hF.a22 (by rw [set_other (by decide)] at h; exact h), fun h => (hF.a23 (by rw [set_other (by decide)] at h; exact h)).keep0 g, fun h => (fun q => ⟨by rw [set_other (by decide)]; exact q.1, q.2⟩) (hF.a24 (by rw [set_other (by decide)] at h; exact h))⟩⟩
    refine StepsI.cons (List.getElem?_toArray.trans rfl) (fun listed act w' hSw hI hlt hun hdep K hK => ?_) ?_
    · obtain ⟨v43, v49, v50, v51, v52, v53, v58, v59, v11, rfl, hF⟩ := hI
      have mk := make_bytes 256 256 w' rfl (by decide)
      go_simp
      exact hK.out _ _ (gb_trans hSw (gb_alloc _ _ none)) ⟨_, _, _, _, _, _, _, _, _, rfl, ⟨fun h => hF.a7 (by rw [set_other (by decide)] at h; exact h), fun h => hF.a13 (by rw [set_other (by decide)] at h; exact h), fun _ => ⟨_, rfl, Blk.mk _ _ _⟩, fun h => hF.a15 (by rw [set_other (by decide)] at h; exact h), fun h => (hF.a16 (by rw [set_other (by decide)] at h; exact h)).keep0 (gb_alloc _ _ none), fun h => hF.a17 (by rw [set_other (by decide)] at h; exact h), fun h => hF.a22 (by rw [set_other (by decide)] at h; exact h), fun h => (hF.a23 (by rw [set_other (by decide)] at h; exact h)).keep0 (gb_alloc _ _ none), fun h => (fun q => ⟨by rw [set_other (by decide)]; exact q.1, q.2⟩) (hF.a24 (by rw [set_other (by decide)] at h; exact h))⟩⟩
    refine StepsI.cons (List.getElem?_toArray.trans rfl) (fun listed act w' hSw hI hlt hun hdep K hK => ?_) ?_
    · obtain ⟨v43, v49, v50, v51, v52, v53, v58, v59, v11, rfl, hF⟩ := hI
      have hz := isZ_text (hF.a14 (hdep ⟨14, .data⟩ (by simp) rfl))
      go_simp
      exact hK.out _ _ hSw ⟨_, _, _, _, _, _, _, _, _, rfl, ⟨fun h => hF.a7 (by rw [set_other (by decide)] at h; exact h), fun h => hF.a13 (by rw [set_other (by decide)] at h; exact h), fun h => hF.a14 (by rw [set_other (by decide)] at h; exact h), fun _ => rfl, fun h => hF.a16 (by rw [set_other (by decide)] at h; exact h), fun h => hF.a17 (by rw [set_other (by decide)] at h; exact h), fun h => hF.a22 (by rw [set_other (by decide)] at h; exact h), fun h => hF.a23 (by rw [set_other (by decide)] at h; exact h), fun h => (fun q => ⟨by rw [set_other (by decide)]; exact q.1, q.2⟩) (hF.a24 (by rw [set_other (by decide)] at h; exact h))⟩⟩
    refine StepsI.cons (List.getElem?_toArray.trans rfl) (fun listed act w' hSw hI hlt hun hdep K hK => ?_) ?_
    · obtain ⟨v43, v49, v50, v51, v52, v53, v58, v59, v11, rfl, hF⟩ := hI
      have mk := make_bytes 256 256 w' rfl (by decide)
      go_simp
      exact hK.out _ _ (gb_trans hSw (gb_alloc _ _ none)) ⟨_, _, _, _, _, _, _, _, _, rfl, ⟨fun h => hF.a7 (by rw [set_other (by decide)] at h; exact h), fun h => hF.a13 (by rw [set_other (by decide)] at h; exact h), fun h => (hF.a14 (by rw [set_other (by decide)] at h; exact h)).keep0 (gb_alloc _ _ none), fun h => hF.a15 (by rw [set_other (by decide)] at h; exact h), fun _ => ⟨_, rfl, Blk.mk _ _ _⟩, fun h => hF.a17 (by rw [set_other (by decide)] at h; exact h), fun h => hF.a22 (by rw [set_other (by decide)] at h; exact h), fun h => (hF.a23 (by rw [set_other (by decide)] at h; exact h)).keep0 (gb_alloc _ _ none), fun h => (fun q => ⟨by rw [set_other (by decide)]; exact q.1, q.2⟩) (hF.a24 (by rw [set_other (by decide)] at h; exact h))⟩⟩
    refine StepsI.cons (List.getElem?_toArray.trans rfl) (fun listed act w' hSw hI hlt hun hdep K hK => ?_) ?_
    · obtain ⟨v43, v49, v50, v51, v52, v53, v58, v59, v11, rfl, hF⟩ := hI
      have hz := isZ_text (hF.a16 (hdep ⟨16, .data⟩ (by simp) rfl))
      go_simp
      exact hK.out _ _ hSw ⟨_, _, _, _, _, _, _, _, _, rfl, ⟨fun h => hF.a7 (by rw [set_other (by decide)] at h; exact h), fun h => hF.a13 (by rw [set_other (by decide)] at h; exact h), fun h => hF.a14 (by rw [set_other (by decide)] at h; exact h), fun h => hF.a15 (by rw [set_other (by decide)] at h; exact h), fun h => hF.a16 (by rw [set_other (by decide)] at h; exact h), fun _ => rfl, fun h => hF.a22 (by rw [set_other (by decide)] at h; exact h), fun h => hF.a23 (by rw [set_other (by decide)] at h; exact h), fun h => (fun q => ⟨by rw [set_other (by decide)]; exact q.1, q.2⟩) (hF.a24 (by rw [set_other (by decide)] at h; exact h))⟩⟩
    refine StepsI.cons (List.getElem?_toArray.trans rfl) (fun listed act w' hSw hI hlt hun hdep K hK => ?_) ?_
    · obtain ⟨v43, v49, v50, v51, v52, v53, v58, v59, v11, rfl, hF⟩ := hI
      obtain rfl := hF.a17 (hdep ⟨17, .data⟩ (by simp) rfl)
      go_simp
      go_at_call 17
      (with_reducible refine (HTz.out _).mono ?_)
      rintro e u ⟨rfl, g⟩
      exact hK.out _ _ (gb_trans hSw g) ⟨_, _, _, _, _, _, _, _, _, rfl, ⟨fun h => hF.a7 (by rw [set_other (by decide)] at h; exact h), fun h => hF.a13 (by rw [set_other (by decide)] at h; exact h), fun h => (hF.a14 (by rw [set_other (by decide)] at h; exact h)).keep0 g, fun h => hF.a15 (by rw [set_other (by decide)] at h; exact h), fun h => (hF.a16 (by rw [set_other (by decide)] at h; exact h)).keep0 g, fun h => hF.a17 (by rw [set_other (by decide)] at h; exact h), fun _ => rfl, fun h => (hF.a23 (by rw [set_other (by decide)] at h; exact h)).keep0 g, fun h => (fun q => ⟨by rw [set_other (by decide)]; exact q.1, q.2⟩) (hF.a24 (by rw [set_other (by decide)] at h; exact h))⟩⟩
    refine StepsI.cons (List.getElem?_toArray.trans rfl) (fun listed act w' hSw hI hlt hun hdep K hK => ?_) ?_
    · obtain ⟨v43, v49, v50, v51, v52, v53, v58, v59, v11, rfl, hF⟩ := hI
      obtain rfl := hF.a7 (hdep ⟨7, .data⟩ (by simp) rfl)
      obtain rfl := hF.a13 (hdep ⟨13, .data⟩ (by simp) rfl)
      obtain rfl := hF.a15 (hdep ⟨15, .data⟩ (by simp) rfl)
      obtain rfl := hF.a22 (hdep ⟨22, .data⟩ (by simp) rfl)
      go_simp
      exact hK.out _ _ (gb_trans hSw (gb_alloc _ _ none)) ⟨_, _, _, _, _, _, _, _, _, rfl, ⟨fun h => hF.a7 (by rw [set_other (by decide)] at h; exact h), fun h => hF.a13 (by rw [set_other (by decide)] at h; exact h), fun h => (hF.a14 (by rw [set_other (by decide)] at h; exact h)).keep0 (gb_alloc _ _ none), fun h => hF.a15 (by rw [set_other (by decide)] at h; exact h), fun h => (hF.a16 (by rw [set_other (by decide)] at h; exact h)).keep0 (gb_alloc _ _ none), fun h => hF.a17 (by rw [set_other (by decide)] at h; exact h), fun h => hF.a22 (by rw [set_other (by decide)] at h; exact h), fun _ => ⟨_, rfl, Blk.mk _ _ _⟩, fun h => (off_false hun hlt (hF.a24 (by rw [set_other (by decide)] at h; exact h)).1).elim⟩⟩
    refine StepsI.cons (List.getElem?_toArray.trans rfl) (fun listed act w' hSw hI hlt hun hdep K hK => ?_) ?_
    · obtain ⟨v43, v49, v50, v51, v52, v53, v58, v59, v11, rfl, hF⟩ := hI
      go_simp
      exact hK.out _ _ hSw ⟨_, _, _, _, _, _, _, _, _, rfl, ⟨fun h => hF.a7 (by rw [set_other (by decide)] at h; exact h), fun h => hF.a13 (by rw [set_other (by decide)] at h; exact h), fun h => hF.a14 (by rw [set_other (by decide)] at h; exact h), fun h => hF.a15 (by rw [set_other (by decide)] at h; exact h), fun h => hF.a16 (by rw [set_other (by decide)] at h; exact h), fun h => hF.a17 (by rw [set_other (by decide)] at h; exact h), fun h => hF.a22 (by rw [set_other (by decide)] at h; exact h), fun h => hF.a23 (by rw [set_other (by decide)] at h; exact h), fun _ => ⟨by rw [set_other (by decide)]; exact (hdep ⟨23, .data⟩ (by simp) rfl), rfl⟩⟩⟩
    exact StepsI.nil
  · rintro listed act w' hSw ⟨v43, v49, v50, v51, v52, v53, v58, v59, v11, rfl, hF⟩ hall
    refine NoPanic.normal ?_
    obtain ⟨bl, hv, hL⟩ := hF.a23 (hall 23 (of_decide_eq_true (by kernel_rfl)))
    obtain rfl := (hF.a24 (hall 24 (of_decide_eq_true (by kernel_rfl)))).2
    obtain rfl := hv
    have gg := gb_trans GG.out hSw
    clear hF hall hSw hHeld
    obtain ⟨L, hLe⟩ : ∃ L, [X, Y, X1, Y1, zeroB, ⟨#[]⟩, Z1] = L := ⟨_, rfl⟩
    have HLN := Lib.hid (show L.length = 7 by rw [← hLe]; rfl)
    rw [hLe] at hL
    clear hLe
    go_wp2
    go_loopw [12] (fun v wr => ∃ i : Nat, i ≤ 7 ∧ v = .int .i64 i ∧ Blk wr bl 9 (strsC L).toArray ∧ w.grownBy wr none) (fun v _ => 8 - (intOf v).toNat)
    case atStart => exact ⟨0, by omega, rfl, hL, gg⟩
    case round =>
      obtain ⟨i, hi, rfl, hL, gg⟩ := hrel
      by_cases hlt : i < 7
      · have HCi := Lib.hid (strs_at L i (by rw [HLN.out]; exact hlt))
        have hc := Blk.cell hL i HCi.out
        generalize L.getD i ⟨#[]⟩ = sa at HCi hc
        obtain ⟨rr, n, hrn, hrl, _, _⟩ := get_parts sa.data.toList
        have HG := Lib.hid (fun W (g : w.grownBy W none) => get_any sa W (HPl.out.keep0 g))
        have HH := Lib.hid (fun W => refGet_any sa W)
        rw [hrn] at HG HH
        unfold RootGot RV at HG HH
        have HRL := Lib.hid hrl
        have hsr : sameR rr rr = true := (sameR_iff rr rr hrl hrl).2 rfl
        have he := fun W => equal_roots rr rr hrl hrl W
        have hg := root_guard
        clear hrn hrl
        go_wp2_with (first
          | (go_at_call 14; (with_reducible refine (HG.out _ gg).mono ?_); rintro e v1 ⟨rfl, g1⟩; have hL := Blk.keep0 hL g1; have hc := g1.cell hc (by simp); have gg := gb_trans gg g1;)
          | ((with_reducible refine stN 13 72 rr HRL.out ?_ ?_ ?_); rfl; rfl; have q13 : RB (v1.alloc (.cells (rootC rr).toArray 25)) v1.heap.size rr := Blk.mk v1 _ _; have hL := Blk.keep0 hL (gb_alloc v1 (.cells (rootC rr).toArray 25) none); have hc := (gb_alloc v1 (.cells (rootC rr).toArray 25) none).cell hc (by simp); have gg := gb_trans gg (gb_alloc v1 (.cells (rootC rr).toArray 25) none); generalize v1.alloc (.cells (rootC rr).toArray 25) = v2 at hL hc q13 gg ⊢)
          | (go_at_call 15; (with_reducible refine (HH.out _).mono ?_); rintro e v3 ⟨rfl, g3⟩; have hL := Blk.keep0 hL g3; have hc := g3.cell hc (by simp); have q13 := RB.keep0 q13 g3; have gg := gb_trans gg g3;)
          | ((with_reducible refine stN 15 80 rr HRL.out ?_ ?_ ?_); rfl; rfl; have q15 : RB (v3.alloc (.cells (rootC rr).toArray 25)) v3.heap.size rr := Blk.mk v3 _ _; have hL := Blk.keep0 hL (gb_alloc v3 (.cells (rootC rr).toArray 25) none); have hc := (gb_alloc v3 (.cells (rootC rr).toArray 25) none).cell hc (by simp); have q13 := RB.keep0 q13 (gb_alloc v3 (.cells (rootC rr).toArray 25) none); have gg := gb_trans gg (gb_alloc v3 (.cells (rootC rr).toArray 25) none); generalize v3.alloc (.cells (rootC rr).toArray 25) = v4 at hL hc q13 q15 gg ⊢)
          | ((with_reducible refine ld 13 (v1.heap.size) rr HRL.out q13 ?_ ?_); rfl)
          | ((with_reducible refine ld 15 (v3.heap.size) rr HRL.out q15 ?_ ?_); rfl)
          | fail)
        go_loopw [17] (fun v ws => ∃ k : Nat, k ≤ 7 ∧ v = .int .i64 k ∧ Blk ws bl 9 (strsC L).toArray ∧ w.grownBy ws none) (fun v _ => 8 - (intOf v).toNat)
        case atStart => exact ⟨0, by omega, rfl, hL, gg⟩
        case round =>
          obtain ⟨k, hk, rfl, hL, gg⟩ := hrel
          by_cases hlk : k < 7
          · have HCk := Lib.hid (strs_at L k (by rw [HLN.out]; exact hlk))
            generalize L.getD k ⟨#[]⟩ = sb at HCk
            have HL := Lib.hid hL
            obtain ⟨pr, pw, pe, hp, hpl⟩ := pick_parts sa.data.toList sb.data.toList
            have HK := Lib.hid (fun W (g : w.grownBy W none) => pick_any sa sb W (HPl.out.keep0 g))
            have HR := Lib.hid (fun W => refPick_any sa sb W)
            rw [hp] at HK HR
            unfold PickGot RV at HK HR
            have HPR := Lib.hid hpl
            clear hp hpl hc he hsr hg
            go_wp2
            refine wp_region_noPanic ?_
            refine wp_region_held_drew (S := fun w' => (wr).grownBy w' none) (by kernel_rfl) (gb_drew _ _) (fun hHeld => ?_)
            have hS := gb_drew (wr) none
            have hL := Blk.keep0 hL (gb_drew (wr) none)
            have gg := gb_trans gg (gb_drew (wr) none)
            generalize (wr).drew = u0 at hL gg hS hHeld ⊢
            refine wpAnyH_take (i := 0) (v := ?_) (List.getElem?_toArray.trans rfl) (by kernel_rfl) (by kernel_rfl) (by kernel_rfl) (fun _ _ _ h => h) (Or.inl ⟨by rfl, ?_⟩) hHeld ?_
            rotate_left
            · intro w' hSw; go_simp; try with_reducible rfl
            try simp only [Act.put, List.setIfInBounds_toArray, List.set_cons_zero, List.set_cons_succ]
            refine wpAnyH_take (i := 1) (v := ?_) (List.getElem?_toArray.trans rfl) (by kernel_rfl) (by kernel_rfl) (by kernel_rfl) (fun _ _ _ h => h) (Or.inl ⟨by rfl, ?_⟩) hHeld ?_
            rotate_left
            · intro w' hSw; go_simp; try with_reducible rfl
            try simp only [Act.put, List.setIfInBounds_toArray, List.set_cons_zero, List.set_cons_succ]
            refine wpAnyH_take (i := 2) (v := ?_) (List.getElem?_toArray.trans rfl) (by kernel_rfl) (by kernel_rfl) (by kernel_rfl) (fun _ _ _ h => h) (Or.inl ⟨by rfl, ?_⟩) hHeld ?_
            rotate_left
            · intro w' hSw; go_simp; try with_reducible rfl
            try simp only [Act.put, List.setIfInBounds_toArray, List.set_cons_zero, List.set_cons_succ]
            refine wpAnyH_take (i := 3) (v := ?_) (List.getElem?_toArray.trans rfl) (by kernel_rfl) (by kernel_rfl) (by kernel_rfl) (fun _ _ _ h => h) (Or.inl ⟨by rfl, ?_⟩) hHeld ?_
            rotate_left
            · intro w' hSw; have hc := Blk.cell (Blk.keep0 HL.out hSw) i (HCi.out); go_simp; try with_reducible rfl
            try simp only [Act.put, List.setIfInBounds_toArray, List.set_cons_zero, List.set_cons_succ]
            refine wpAnyH_take (i := 4) (v := ?_) (List.getElem?_toArray.trans rfl) (by kernel_rfl) (by kernel_rfl) (by kernel_rfl) (fun _ _ _ h => h) (Or.inl ⟨by rfl, ?_⟩) hHeld ?_
            rotate_left
            · intro w' hSw; go_simp; try with_reducible rfl
            try simp only [Act.put, List.setIfInBounds_toArray, List.set_cons_zero, List.set_cons_succ]
            refine wpAnyH_take (i := 5) (v := ?_) (List.getElem?_toArray.trans rfl) (by kernel_rfl) (by kernel_rfl) (by kernel_rfl) (fun _ _ _ h => h) (Or.inl ⟨by rfl, ?_⟩) hHeld ?_
            rotate_left
            · intro w' hSw; go_simp; try with_reducible rfl
            try simp only [Act.put, List.setIfInBounds_toArray, List.set_cons_zero, List.set_cons_succ]
            refine wpAnyH_take (i := 6) (v := ?_) (List.getElem?_toArray.trans rfl) (by kernel_rfl) (by kernel_rfl) (by kernel_rfl) (fun _ _ _ h => h) (Or.inl ⟨by rfl, ?_⟩) hHeld ?_
            rotate_left
            · intro w' hSw; go_simp; try with_reducible rfl
            try simp only [Act.put, List.setIfInBounds_toArray, List.set_cons_zero, List.set_cons_succ]
            refine wpAnyH_take (i := 7) (v := ?_) (List.getElem?_toArray.trans rfl) (by kernel_rfl) (by kernel_rfl) (by kernel_rfl) (fun _ _ _ h => h) (Or.inl ⟨by rfl, ?_⟩) hHeld ?_
            rotate_left
            · intro w' hSw; have hc := Blk.cell (Blk.keep0 HL.out hSw) k (HCk.out); go_simp; try with_reducible rfl
            try simp only [Act.put, List.setIfInBounds_toArray, List.set_cons_zero, List.set_cons_succ]
            refine wpAnyH_ready (rs := [8, 13]) (by kernel_rfl) (by simp) ?_
            refine AllReadyH.cons (List.getElem?_toArray.trans rfl) (fun K hK => ?_) (AllReadyH.cons (List.getElem?_toArray.trans rfl) (fun K hK => ?_) AllReadyH.nil)
            · skip
              go_simp
              go_at_call 18
              (with_reducible refine (HK.out _ gg).mono ?_)
              rintro e u1 ⟨rfl, gN⟩
              have hL := Blk.keep0 hL gN
              have gg := gb_trans gg gN
              have hS := gb_trans hS gN
              refine hK.out _ _ hS (fun hHeld => ?_)
              clear hK K
              try simp only [Act.put, List.setIfInBounds_toArray, List.set_cons_zero, List.set_cons_succ]
              refine wpAnyH_take (i := 9) (v := ?_) (List.getElem?_toArray.trans rfl) (by kernel_rfl) (by kernel_rfl) (by kernel_rfl) (fun _ _ _ h => h) (Or.inl ⟨by rfl, ?_⟩) hHeld ?_
              rotate_left
              · intro w' hSw; go_simp; try with_reducible rfl
              try simp only [Act.put, List.setIfInBounds_toArray, List.set_cons_zero, List.set_cons_succ]
              refine wpAnyH_take (i := 10) (v := ?_) (List.getElem?_toArray.trans rfl) (by kernel_rfl) (by kernel_rfl) (by kernel_rfl) (fun _ _ _ h => h) (Or.inl ⟨by rfl, ?_⟩) hHeld ?_
              rotate_left
              · intro w' hSw; go_simp; try with_reducible rfl
              try simp only [Act.put, List.setIfInBounds_toArray, List.set_cons_zero, List.set_cons_succ]
              refine wpAnyH_take (i := 11) (v := ?_) (List.getElem?_toArray.trans rfl) (by kernel_rfl) (by kernel_rfl) (by kernel_rfl) (fun _ _ _ h => h) (Or.inl ⟨by rfl, ?_⟩) hHeld ?_
              rotate_left
              · intro w' hSw; go_simp; try with_reducible rfl
              try simp only [Act.put, List.setIfInBounds_toArray, List.set_cons_zero, List.set_cons_succ]
              refine wpAnyH_take (i := 12) (v := ?_) (List.getElem?_toArray.trans rfl) (by kernel_rfl) (by kernel_rfl) (by kernel_rfl) (fun _ _ _ h => h) (Or.inl ⟨by rfl, ?_⟩) hHeld ?_
              rotate_left
              · intro w' hSw; go_simp; try with_reducible rfl
              try simp only [Act.put, List.setIfInBounds_toArray, List.set_cons_zero, List.set_cons_succ]
              refine wpAnyH_ready (rs := [13]) (by kernel_rfl) (by simp) ?_
              refine AllReadyH.cons (List.getElem?_toArray.trans rfl) (fun K hK => ?_) AllReadyH.nil
              go_simp
              have r18 : RB (u1.alloc (.cells #[.int .u64 0, .int .i64 0, .int .i64 0, .int .i64 0, .int .i64 0, .int .i64 0, .int .i64 0, .int .i64 0, .int .i64 0, .int .i64 0] 25)) u1.heap.size zeroR := Blk.mk u1 25 (rootC zeroR).toArray
              have l_r18 := gg.size
              have ls_r18 := hS.size
              have hL_r18 := Nat.ne_of_lt (Blk.lt hL)
              have hL := Blk.keep0 hL (gb_alloc u1 (.cells #[.int .u64 0, .int .i64 0, .int .i64 0, .int .i64 0, .int .i64 0, .int .i64 0, .int .i64 0, .int .i64 0, .int .i64 0, .int .i64 0] 25) none)
              have gg := gb_trans gg (gb_alloc u1 (.cells #[.int .u64 0, .int .i64 0, .int .i64 0, .int .i64 0, .int .i64 0, .int .i64 0, .int .i64 0, .int .i64 0, .int .i64 0, .int .i64 0] 25) none)
              have hS := gb_trans hS (gb_alloc u1 (.cells #[.int .u64 0, .int .i64 0, .int .i64 0, .int .i64 0, .int .i64 0, .int .i64 0, .int .i64 0, .int .i64 0, .int .i64 0, .int .i64 0] 25) none)
              generalize u1.alloc (.cells #[.int .u64 0, .int .i64 0, .int .i64 0, .int .i64 0, .int .i64 0, .int .i64 0, .int .i64 0, .int .i64 0, .int .i64 0, .int .i64 0] 25) = u2 at hL r18 gg hS ⊢
              refine hK.out _ _ hS (fun hHeld => ?_)
              clear hK K
              try simp only [Act.put, List.setIfInBounds_toArray, List.set_cons_zero, List.set_cons_succ]
              refine wpAnyH_ready (rs := [14]) (by kernel_rfl) (by simp) ?_
              refine AllReadyH.cons (List.getElem?_toArray.trans rfl) (fun K hK => ?_) AllReadyH.nil
              with_reducible refine stR 18 106 (u1.heap.size) zeroR pr zero_len HPR.out r18 ?hx ?hy ?_
              case hx => rfl
              case hy => rfl
              have r18 := set_root r18 pr
              have hL := Blk.keep hL (gb_setRow u2 (u1.heap.size) (rootC pr).toArray) (ne_some hL_r18)
              have gg := gb_step gg (gb_setRow u2 (u1.heap.size) (rootC pr).toArray) l_r18
              have hS := gb_step hS (gb_setRow u2 (u1.heap.size) (rootC pr).toArray) ls_r18
              generalize u2.setRow (u1.heap.size) (rootC pr).toArray = u3 at hL r18 gg hS ⊢
              refine hK.out _ _ hS (fun hHeld => ?_)
              clear hK K
              try simp only [Act.put, List.setIfInBounds_toArray, List.set_cons_zero, List.set_cons_succ]
              refine wpAnyH_take (i := 15) (v := ?_) (List.getElem?_toArray.trans rfl) (by kernel_rfl) (by kernel_rfl) (by kernel_rfl) (fun _ _ _ h => h) (Or.inl ⟨by rfl, ?_⟩) hHeld ?_
              rotate_left
              · intro w' hSw; go_simp; try with_reducible rfl
              try simp only [Act.put, List.setIfInBounds_toArray, List.set_cons_zero, List.set_cons_succ]
              refine wpAnyH_take (i := 16) (v := ?_) (List.getElem?_toArray.trans rfl) (by kernel_rfl) (by kernel_rfl) (by kernel_rfl) (fun _ _ _ h => h) (Or.inl ⟨by rfl, ?_⟩) hHeld ?_
              rotate_left
              · intro w' hSw; go_simp; try with_reducible rfl
              try simp only [Act.put, List.setIfInBounds_toArray, List.set_cons_zero, List.set_cons_succ]
              refine wpAnyH_done (by kernel_rfl) ?_ _
              refine NoPanic.normal ?_
              have HL := Lib.hid hL
              clear hS hHeld l_r18 ls_r18
              generalize u1.heap.size = b18 at r18 ⊢
              go_wp2
              refine wp_region_noPanic ?_
              refine wp_region_held_drew (S := fun w' => (u3).grownBy w' none) (by kernel_rfl) (gb_drew _ _) (fun hHeld => ?_)
              have hS := gb_drew (u3) none
              have hL := Blk.keep0 hL (gb_drew (u3) none)
              have r18 := RB.keep0 r18 (gb_drew (u3) none)
              have gg := gb_trans gg (gb_drew (u3) none)
              generalize (u3).drew = u0 at hL r18 gg hS hHeld ⊢
              refine wpAnyH_take (i := 0) (v := ?_) (List.getElem?_toArray.trans rfl) (by kernel_rfl) (by kernel_rfl) (by kernel_rfl) (fun _ _ _ h => h) (Or.inl ⟨by rfl, ?_⟩) hHeld ?_
              rotate_left
              · intro w' hSw; go_simp; try with_reducible rfl
              try simp only [Act.put, List.setIfInBounds_toArray, List.set_cons_zero, List.set_cons_succ]
              refine wpAnyH_take (i := 1) (v := ?_) (List.getElem?_toArray.trans rfl) (by kernel_rfl) (by kernel_rfl) (by kernel_rfl) (fun _ _ _ h => h) (Or.inl ⟨by rfl, ?_⟩) hHeld ?_
              rotate_left
              · intro w' hSw; go_simp; try with_reducible rfl
              try simp only [Act.put, List.setIfInBounds_toArray, List.set_cons_zero, List.set_cons_succ]
              refine wpAnyH_take (i := 2) (v := ?_) (List.getElem?_toArray.trans rfl) (by kernel_rfl) (by kernel_rfl) (by kernel_rfl) (fun _ _ _ h => h) (Or.inl ⟨by rfl, ?_⟩) hHeld ?_
              rotate_left
              · intro w' hSw; go_simp; try with_reducible rfl
              try simp only [Act.put, List.setIfInBounds_toArray, List.set_cons_zero, List.set_cons_succ]
              refine wpAnyH_take (i := 3) (v := ?_) (List.getElem?_toArray.trans rfl) (by kernel_rfl) (by kernel_rfl) (by kernel_rfl) (fun _ _ _ h => h) (Or.inl ⟨by rfl, ?_⟩) hHeld ?_
              rotate_left
              · intro w' hSw; have hc := Blk.cell (Blk.keep0 HL.out hSw) i (HCi.out); go_simp; try with_reducible rfl
              try simp only [Act.put, List.setIfInBounds_toArray, List.set_cons_zero, List.set_cons_succ]
              refine wpAnyH_take (i := 4) (v := ?_) (List.getElem?_toArray.trans rfl) (by kernel_rfl) (by kernel_rfl) (by kernel_rfl) (fun _ _ _ h => h) (Or.inl ⟨by rfl, ?_⟩) hHeld ?_
              rotate_left
              · intro w' hSw; go_simp; try with_reducible rfl
              try simp only [Act.put, List.setIfInBounds_toArray, List.set_cons_zero, List.set_cons_succ]
              refine wpAnyH_take (i := 5) (v := ?_) (List.getElem?_toArray.trans rfl) (by kernel_rfl) (by kernel_rfl) (by kernel_rfl) (fun _ _ _ h => h) (Or.inl ⟨by rfl, ?_⟩) hHeld ?_
              rotate_left
              · intro w' hSw; go_simp; try with_reducible rfl
              try simp only [Act.put, List.setIfInBounds_toArray, List.set_cons_zero, List.set_cons_succ]
              refine wpAnyH_take (i := 6) (v := ?_) (List.getElem?_toArray.trans rfl) (by kernel_rfl) (by kernel_rfl) (by kernel_rfl) (fun _ _ _ h => h) (Or.inl ⟨by rfl, ?_⟩) hHeld ?_
              rotate_left
              · intro w' hSw; go_simp; try with_reducible rfl
              try simp only [Act.put, List.setIfInBounds_toArray, List.set_cons_zero, List.set_cons_succ]
              refine wpAnyH_take (i := 7) (v := ?_) (List.getElem?_toArray.trans rfl) (by kernel_rfl) (by kernel_rfl) (by kernel_rfl) (fun _ _ _ h => h) (Or.inl ⟨by rfl, ?_⟩) hHeld ?_
              rotate_left
              · intro w' hSw; have hc := Blk.cell (Blk.keep0 HL.out hSw) k (HCk.out); go_simp; try with_reducible rfl
              try simp only [Act.put, List.setIfInBounds_toArray, List.set_cons_zero, List.set_cons_succ]
              refine wpAnyH_ready (rs := [8, 13]) (by kernel_rfl) (by simp) ?_
              refine AllReadyH.cons (List.getElem?_toArray.trans rfl) (fun K hK => ?_) (AllReadyH.cons (List.getElem?_toArray.trans rfl) (fun K hK => ?_) AllReadyH.nil)
              · skip
                go_simp
                go_at_call 19
                (with_reducible refine (HR.out _).mono ?_)
                rintro e u101 ⟨rfl, gN⟩
                have hL := Blk.keep0 hL gN
                have r18 := RB.keep0 r18 gN
                have gg := gb_trans gg gN
                have hS := gb_trans hS gN
                refine hK.out _ _ hS (fun hHeld => ?_)
                clear hK K
                try simp only [Act.put, List.setIfInBounds_toArray, List.set_cons_zero, List.set_cons_succ]
                refine wpAnyH_take (i := 9) (v := ?_) (List.getElem?_toArray.trans rfl) (by kernel_rfl) (by kernel_rfl) (by kernel_rfl) (fun _ _ _ h => h) (Or.inl ⟨by rfl, ?_⟩) hHeld ?_
                rotate_left
                · intro w' hSw; go_simp; try with_reducible rfl
                try simp only [Act.put, List.setIfInBounds_toArray, List.set_cons_zero, List.set_cons_succ]
                refine wpAnyH_take (i := 10) (v := ?_) (List.getElem?_toArray.trans rfl) (by kernel_rfl) (by kernel_rfl) (by kernel_rfl) (fun _ _ _ h => h) (Or.inl ⟨by rfl, ?_⟩) hHeld ?_
                rotate_left
                · intro w' hSw; go_simp; try with_reducible rfl
                try simp only [Act.put, List.setIfInBounds_toArray, List.set_cons_zero, List.set_cons_succ]
                refine wpAnyH_take (i := 11) (v := ?_) (List.getElem?_toArray.trans rfl) (by kernel_rfl) (by kernel_rfl) (by kernel_rfl) (fun _ _ _ h => h) (Or.inl ⟨by rfl, ?_⟩) hHeld ?_
                rotate_left
                · intro w' hSw; go_simp; try with_reducible rfl
                try simp only [Act.put, List.setIfInBounds_toArray, List.set_cons_zero, List.set_cons_succ]
                refine wpAnyH_take (i := 12) (v := ?_) (List.getElem?_toArray.trans rfl) (by kernel_rfl) (by kernel_rfl) (by kernel_rfl) (fun _ _ _ h => h) (Or.inl ⟨by rfl, ?_⟩) hHeld ?_
                rotate_left
                · intro w' hSw; go_simp; try with_reducible rfl
                try simp only [Act.put, List.setIfInBounds_toArray, List.set_cons_zero, List.set_cons_succ]
                refine wpAnyH_ready (rs := [13]) (by kernel_rfl) (by simp) ?_
                refine AllReadyH.cons (List.getElem?_toArray.trans rfl) (fun K hK => ?_) AllReadyH.nil
                go_simp
                have r21 : RB (u101.alloc (.cells #[.int .u64 0, .int .i64 0, .int .i64 0, .int .i64 0, .int .i64 0, .int .i64 0, .int .i64 0, .int .i64 0, .int .i64 0, .int .i64 0] 25)) u101.heap.size zeroR := Blk.mk u101 25 (rootC zeroR).toArray
                have l_r21 := gg.size
                have ls_r21 := hS.size
                have hL_r21 := Nat.ne_of_lt (Blk.lt hL)
                have r18_r21 := Nat.ne_of_lt (Blk.lt r18)
                have hL := Blk.keep0 hL (gb_alloc u101 (.cells #[.int .u64 0, .int .i64 0, .int .i64 0, .int .i64 0, .int .i64 0, .int .i64 0, .int .i64 0, .int .i64 0, .int .i64 0, .int .i64 0] 25) none)
                have r18 := RB.keep0 r18 (gb_alloc u101 (.cells #[.int .u64 0, .int .i64 0, .int .i64 0, .int .i64 0, .int .i64 0, .int .i64 0, .int .i64 0, .int .i64 0, .int .i64 0, .int .i64 0] 25) none)
                have gg := gb_trans gg (gb_alloc u101 (.cells #[.int .u64 0, .int .i64 0, .int .i64 0, .int .i64 0, .int .i64 0, .int .i64 0, .int .i64 0, .int .i64 0, .int .i64 0, .int .i64 0] 25) none)
                have hS := gb_trans hS (gb_alloc u101 (.cells #[.int .u64 0, .int .i64 0, .int .i64 0, .int .i64 0, .int .i64 0, .int .i64 0, .int .i64 0, .int .i64 0, .int .i64 0, .int .i64 0] 25) none)
                generalize u101.alloc (.cells #[.int .u64 0, .int .i64 0, .int .i64 0, .int .i64 0, .int .i64 0, .int .i64 0, .int .i64 0, .int .i64 0, .int .i64 0, .int .i64 0] 25) = u102 at hL r18 r21 gg hS ⊢
                refine hK.out _ _ hS (fun hHeld => ?_)
                clear hK K
                try simp only [Act.put, List.setIfInBounds_toArray, List.set_cons_zero, List.set_cons_succ]
                refine wpAnyH_ready (rs := [14]) (by kernel_rfl) (by simp) ?_
                refine AllReadyH.cons (List.getElem?_toArray.trans rfl) (fun K hK => ?_) AllReadyH.nil
                with_reducible refine stR 21 119 (u101.heap.size) zeroR pr zero_len HPR.out r21 ?hx ?hy ?_
                case hx => rfl
                case hy => rfl
                have r21 := set_root r21 pr
                have hL := Blk.keep hL (gb_setRow u102 (u101.heap.size) (rootC pr).toArray) (ne_some hL_r21)
                have r18 := RB.keepS r18 (gb_setRow u102 (u101.heap.size) (rootC pr).toArray) (ne_some r18_r21)
                have gg := gb_step gg (gb_setRow u102 (u101.heap.size) (rootC pr).toArray) l_r21
                have hS := gb_step hS (gb_setRow u102 (u101.heap.size) (rootC pr).toArray) ls_r21
                generalize u102.setRow (u101.heap.size) (rootC pr).toArray = u103 at hL r18 r21 gg hS ⊢
                refine hK.out _ _ hS (fun hHeld => ?_)
                clear hK K
                try simp only [Act.put, List.setIfInBounds_toArray, List.set_cons_zero, List.set_cons_succ]
                refine wpAnyH_take (i := 15) (v := ?_) (List.getElem?_toArray.trans rfl) (by kernel_rfl) (by kernel_rfl) (by kernel_rfl) (fun _ _ _ h => h) (Or.inl ⟨by rfl, ?_⟩) hHeld ?_
                rotate_left
                · intro w' hSw; go_simp; try with_reducible rfl
                try simp only [Act.put, List.setIfInBounds_toArray, List.set_cons_zero, List.set_cons_succ]
                refine wpAnyH_take (i := 16) (v := ?_) (List.getElem?_toArray.trans rfl) (by kernel_rfl) (by kernel_rfl) (by kernel_rfl) (fun _ _ _ h => h) (Or.inl ⟨by rfl, ?_⟩) hHeld ?_
                rotate_left
                · intro w' hSw; go_simp; try with_reducible rfl
                try simp only [Act.put, List.setIfInBounds_toArray, List.set_cons_zero, List.set_cons_succ]
                refine wpAnyH_done (by kernel_rfl) ?_ _
                refine NoPanic.normal ?_
                have hsr : sameR pr pr = true := (sameR_iff pr pr HPR.out HPR.out).2 rfl
                have he := fun W => equal_roots pr pr HPR.out HPR.out W
                have hg := root_guard
                go_wp2_with (first
                  | ((with_reducible refine ld 18 (b18) pr HPR.out r18 ?_ ?_); rfl)
                  | ((with_reducible refine ld 21 (u101.heap.size) pr HPR.out r21 ?_ ?_); rfl)
                  | fail)
                go_roundw
                case rel => exact ⟨k + 1, by omega, by go_num, hL, gg⟩
                case measure => simp [intOf]; omega
              · skip
                go_simp
                have r21 : RB (u0.alloc (.cells #[.int .u64 0, .int .i64 0, .int .i64 0, .int .i64 0, .int .i64 0, .int .i64 0, .int .i64 0, .int .i64 0, .int .i64 0, .int .i64 0] 25)) u0.heap.size zeroR := Blk.mk u0 25 (rootC zeroR).toArray
                have l_r21 := gg.size
                have ls_r21 := hS.size
                have hL_r21 := Nat.ne_of_lt (Blk.lt hL)
                have r18_r21 := Nat.ne_of_lt (Blk.lt r18)
                have hL := Blk.keep0 hL (gb_alloc u0 (.cells #[.int .u64 0, .int .i64 0, .int .i64 0, .int .i64 0, .int .i64 0, .int .i64 0, .int .i64 0, .int .i64 0, .int .i64 0, .int .i64 0] 25) none)
                have r18 := RB.keep0 r18 (gb_alloc u0 (.cells #[.int .u64 0, .int .i64 0, .int .i64 0, .int .i64 0, .int .i64 0, .int .i64 0, .int .i64 0, .int .i64 0, .int .i64 0, .int .i64 0] 25) none)
                have gg := gb_trans gg (gb_alloc u0 (.cells #[.int .u64 0, .int .i64 0, .int .i64 0, .int .i64 0, .int .i64 0, .int .i64 0, .int .i64 0, .int .i64 0, .int .i64 0, .int .i64 0] 25) none)
                have hS := gb_trans hS (gb_alloc u0 (.cells #[.int .u64 0, .int .i64 0, .int .i64 0, .int .i64 0, .int .i64 0, .int .i64 0, .int .i64 0, .int .i64 0, .int .i64 0, .int .i64 0] 25) none)
                generalize u0.alloc (.cells #[.int .u64 0, .int .i64 0, .int .i64 0, .int .i64 0, .int .i64 0, .int .i64 0, .int .i64 0, .int .i64 0, .int .i64 0, .int .i64 0] 25) = u104 at hL r18 r21 gg hS ⊢
                refine hK.out _ _ hS (fun hHeld => ?_)
                clear hK K
                try simp only [Act.put, List.setIfInBounds_toArray, List.set_cons_zero, List.set_cons_succ]
                refine wpAnyH_ready (rs := [8]) (by kernel_rfl) (by simp) ?_
                refine AllReadyH.cons (List.getElem?_toArray.trans rfl) (fun K hK => ?_) AllReadyH.nil
                go_simp
                go_at_call 19
                (with_reducible refine (HR.out _).mono ?_)
                rintro e u105 ⟨rfl, gN⟩
                have hL := Blk.keep0 hL gN
                have r18 := RB.keep0 r18 gN
                have r21 := RB.keep0 r21 gN
                have gg := gb_trans gg gN
                have hS := gb_trans hS gN
                refine hK.out _ _ hS (fun hHeld => ?_)
                clear hK K
                try simp only [Act.put, List.setIfInBounds_toArray, List.set_cons_zero, List.set_cons_succ]
                refine wpAnyH_take (i := 9) (v := ?_) (List.getElem?_toArray.trans rfl) (by kernel_rfl) (by kernel_rfl) (by kernel_rfl) (fun _ _ _ h => h) (Or.inl ⟨by rfl, ?_⟩) hHeld ?_
                rotate_left
                · intro w' hSw; go_simp; try with_reducible rfl
                try simp only [Act.put, List.setIfInBounds_toArray, List.set_cons_zero, List.set_cons_succ]
                refine wpAnyH_take (i := 10) (v := ?_) (List.getElem?_toArray.trans rfl) (by kernel_rfl) (by kernel_rfl) (by kernel_rfl) (fun _ _ _ h => h) (Or.inl ⟨by rfl, ?_⟩) hHeld ?_
                rotate_left
                · intro w' hSw; go_simp; try with_reducible rfl
                try simp only [Act.put, List.setIfInBounds_toArray, List.set_cons_zero, List.set_cons_succ]
                refine wpAnyH_take (i := 11) (v := ?_) (List.getElem?_toArray.trans rfl) (by kernel_rfl) (by kernel_rfl) (by kernel_rfl) (fun _ _ _ h => h) (Or.inl ⟨by rfl, ?_⟩) hHeld ?_
                rotate_left
                · intro w' hSw; go_simp; try with_reducible rfl
                try simp only [Act.put, List.setIfInBounds_toArray, List.set_cons_zero, List.set_cons_succ]
                refine wpAnyH_take (i := 12) (v := ?_) (List.getElem?_toArray.trans rfl) (by kernel_rfl) (by kernel_rfl) (by kernel_rfl) (fun _ _ _ h => h) (Or.inl ⟨by rfl, ?_⟩) hHeld ?_
                rotate_left
                · intro w' hSw; go_simp; try with_reducible rfl
                try simp only [Act.put, List.setIfInBounds_toArray, List.set_cons_zero, List.set_cons_succ]
                refine wpAnyH_ready (rs := [14]) (by kernel_rfl) (by simp) ?_
                refine AllReadyH.cons (List.getElem?_toArray.trans rfl) (fun K hK => ?_) AllReadyH.nil
                with_reducible refine stR 21 119 (u0.heap.size) zeroR pr zero_len HPR.out r21 ?hx ?hy ?_
                case hx => rfl
                case hy => rfl
                have r21 := set_root r21 pr
                have hL := Blk.keep hL (gb_setRow u105 (u0.heap.size) (rootC pr).toArray) (ne_some hL_r21)
                have r18 := RB.keepS r18 (gb_setRow u105 (u0.heap.size) (rootC pr).toArray) (ne_some r18_r21)
                have gg := gb_step gg (gb_setRow u105 (u0.heap.size) (rootC pr).toArray) l_r21
                have hS := gb_step hS (gb_setRow u105 (u0.heap.size) (rootC pr).toArray) ls_r21
                generalize u105.setRow (u0.heap.size) (rootC pr).toArray = u106 at hL r18 r21 gg hS ⊢
                refine hK.out _ _ hS (fun hHeld => ?_)
                clear hK K
                try simp only [Act.put, List.setIfInBounds_toArray, List.set_cons_zero, List.set_cons_succ]
                refine wpAnyH_take (i := 15) (v := ?_) (List.getElem?_toArray.trans rfl) (by kernel_rfl) (by kernel_rfl) (by kernel_rfl) (fun _ _ _ h => h) (Or.inl ⟨by rfl, ?_⟩) hHeld ?_
                rotate_left
                · intro w' hSw; go_simp; try with_reducible rfl
                try simp only [Act.put, List.setIfInBounds_toArray, List.set_cons_zero, List.set_cons_succ]
                refine wpAnyH_take (i := 16) (v := ?_) (List.getElem?_toArray.trans rfl) (by kernel_rfl) (by kernel_rfl) (by kernel_rfl) (fun _ _ _ h => h) (Or.inl ⟨by rfl, ?_⟩) hHeld ?_
                rotate_left
                · intro w' hSw; go_simp; try with_reducible rfl
                try simp only [Act.put, List.setIfInBounds_toArray, List.set_cons_zero, List.set_cons_succ]
                refine wpAnyH_done (by kernel_rfl) ?_ _
                refine NoPanic.normal ?_
                have hsr : sameR pr pr = true := (sameR_iff pr pr HPR.out HPR.out).2 rfl
                have he := fun W => equal_roots pr pr HPR.out HPR.out W
                have hg := root_guard
                go_wp2_with (first
                  | ((with_reducible refine ld 18 (b18) pr HPR.out r18 ?_ ?_); rfl)
                  | ((with_reducible refine ld 21 (u0.heap.size) pr HPR.out r21 ?_ ?_); rfl)
                  | fail)
                go_roundw
                case rel => exact ⟨k + 1, by omega, by go_num, hL, gg⟩
                case measure => simp [intOf]; omega
            · skip
              go_simp
              have r18 : RB (u0.alloc (.cells #[.int .u64 0, .int .i64 0, .int .i64 0, .int .i64 0, .int .i64 0, .int .i64 0, .int .i64 0, .int .i64 0, .int .i64 0, .int .i64 0] 25)) u0.heap.size zeroR := Blk.mk u0 25 (rootC zeroR).toArray
              have l_r18 := gg.size
              have ls_r18 := hS.size
              have hL_r18 := Nat.ne_of_lt (Blk.lt hL)
              have hL := Blk.keep0 hL (gb_alloc u0 (.cells #[.int .u64 0, .int .i64 0, .int .i64 0, .int .i64 0, .int .i64 0, .int .i64 0, .int .i64 0, .int .i64 0, .int .i64 0, .int .i64 0] 25) none)
              have gg := gb_trans gg (gb_alloc u0 (.cells #[.int .u64 0, .int .i64 0, .int .i64 0, .int .i64 0, .int .i64 0, .int .i64 0, .int .i64 0, .int .i64 0, .int .i64 0, .int .i64 0] 25) none)
              have hS := gb_trans hS (gb_alloc u0 (.cells #[.int .u64 0, .int .i64 0, .int .i64 0, .int .i64 0, .int .i64 0, .int .i64 0, .int .i64 0, .int .i64 0, .int .i64 0, .int .i64 0] 25) none)
              generalize u0.alloc (.cells #[.int .u64 0, .int .i64 0, .int .i64 0, .int .i64 0, .int .i64 0, .int .i64 0, .int .i64 0, .int .i64 0, .int .i64 0, .int .i64 0] 25) = u4 at hL r18 gg hS ⊢
              refine hK.out _ _ hS (fun hHeld => ?_)
              clear hK K
              try simp only [Act.put, List.setIfInBounds_toArray, List.set_cons_zero, List.set_cons_succ]
              refine wpAnyH_ready (rs := [8]) (by kernel_rfl) (by simp) ?_
              refine AllReadyH.cons (List.getElem?_toArray.trans rfl) (fun K hK => ?_) AllReadyH.nil
              go_simp
              go_at_call 18
              (with_reducible refine (HK.out _ gg).mono ?_)
              rintro e u5 ⟨rfl, gN⟩
              have hL := Blk.keep0 hL gN
              have r18 := RB.keep0 r18 gN
              have gg := gb_trans gg gN
              have hS := gb_trans hS gN
              refine hK.out _ _ hS (fun hHeld => ?_)
              clear hK K
              try simp only [Act.put, List.setIfInBounds_toArray, List.set_cons_zero, List.set_cons_succ]
              refine wpAnyH_take (i := 9) (v := ?_) (List.getElem?_toArray.trans rfl) (by kernel_rfl) (by kernel_rfl) (by kernel_rfl) (fun _ _ _ h => h) (Or.inl ⟨by rfl, ?_⟩) hHeld ?_
              rotate_left
              · intro w' hSw; go_simp; try with_reducible rfl
              try simp only [Act.put, List.setIfInBounds_toArray, List.set_cons_zero, List.set_cons_succ]
              refine wpAnyH_take (i := 10) (v := ?_) (List.getElem?_toArray.trans rfl) (by kernel_rfl) (by kernel_rfl) (by kernel_rfl) (fun _ _ _ h => h) (Or.inl ⟨by rfl, ?_⟩) hHeld ?_
              rotate_left
              · intro w' hSw; go_simp; try with_reducible rfl
              try simp only [Act.put, List.setIfInBounds_toArray, List.set_cons_zero, List.set_cons_succ]
              refine wpAnyH_take (i := 11) (v := ?_) (List.getElem?_toArray.trans rfl) (by kernel_rfl) (by kernel_rfl) (by kernel_rfl) (fun _ _ _ h => h) (Or.inl ⟨by rfl, ?_⟩) hHeld ?_
              rotate_left
              · intro w' hSw; go_simp; try with_reducible rfl
              try simp only [Act.put, List.setIfInBounds_toArray, List.set_cons_zero, List.set_cons_succ]
              refine wpAnyH_take (i := 12) (v := ?_) (List.getElem?_toArray.trans rfl) (by kernel_rfl) (by kernel_rfl) (by kernel_rfl) (fun _ _ _ h => h) (Or.inl ⟨by rfl, ?_⟩) hHeld ?_
              rotate_left
              · intro w' hSw; go_simp; try with_reducible rfl
              try simp only [Act.put, List.setIfInBounds_toArray, List.set_cons_zero, List.set_cons_succ]
              refine wpAnyH_ready (rs := [14]) (by kernel_rfl) (by simp) ?_
              refine AllReadyH.cons (List.getElem?_toArray.trans rfl) (fun K hK => ?_) AllReadyH.nil
              with_reducible refine stR 18 106 (u0.heap.size) zeroR pr zero_len HPR.out r18 ?hx ?hy ?_
              case hx => rfl
              case hy => rfl
              have r18 := set_root r18 pr
              have hL := Blk.keep hL (gb_setRow u5 (u0.heap.size) (rootC pr).toArray) (ne_some hL_r18)
              have gg := gb_step gg (gb_setRow u5 (u0.heap.size) (rootC pr).toArray) l_r18
              have hS := gb_step hS (gb_setRow u5 (u0.heap.size) (rootC pr).toArray) ls_r18
              generalize u5.setRow (u0.heap.size) (rootC pr).toArray = u6 at hL r18 gg hS ⊢
              refine hK.out _ _ hS (fun hHeld => ?_)
              clear hK K
              try simp only [Act.put, List.setIfInBounds_toArray, List.set_cons_zero, List.set_cons_succ]
              refine wpAnyH_take (i := 15) (v := ?_) (List.getElem?_toArray.trans rfl) (by kernel_rfl) (by kernel_rfl) (by kernel_rfl) (fun _ _ _ h => h) (Or.inl ⟨by rfl, ?_⟩) hHeld ?_
              rotate_left
              · intro w' hSw; go_simp; try with_reducible rfl
              try simp only [Act.put, List.setIfInBounds_toArray, List.set_cons_zero, List.set_cons_succ]
              refine wpAnyH_take (i := 16) (v := ?_) (List.getElem?_toArray.trans rfl) (by kernel_rfl) (by kernel_rfl) (by kernel_rfl) (fun _ _ _ h => h) (Or.inl ⟨by rfl, ?_⟩) hHeld ?_
              rotate_left
              · intro w' hSw; go_simp; try with_reducible rfl
              try simp only [Act.put, List.setIfInBounds_toArray, List.set_cons_zero, List.set_cons_succ]
              refine wpAnyH_done (by kernel_rfl) ?_ _
              refine NoPanic.normal ?_
              have HL := Lib.hid hL
              clear hS hHeld l_r18 ls_r18
              generalize u0.heap.size = b18 at r18 ⊢
              go_wp2
              refine wp_region_noPanic ?_
              refine wp_region_held_drew (S := fun w' => (u6).grownBy w' none) (by kernel_rfl) (gb_drew _ _) (fun hHeld => ?_)
              have hS := gb_drew (u6) none
              have hL := Blk.keep0 hL (gb_drew (u6) none)
              have r18 := RB.keep0 r18 (gb_drew (u6) none)
              have gg := gb_trans gg (gb_drew (u6) none)
              generalize (u6).drew = u0 at hL r18 gg hS hHeld ⊢
              refine wpAnyH_take (i := 0) (v := ?_) (List.getElem?_toArray.trans rfl) (by kernel_rfl) (by kernel_rfl) (by kernel_rfl) (fun _ _ _ h => h) (Or.inl ⟨by rfl, ?_⟩) hHeld ?_
              rotate_left
              · intro w' hSw; go_simp; try with_reducible rfl
              try simp only [Act.put, List.setIfInBounds_toArray, List.set_cons_zero, List.set_cons_succ]
              refine wpAnyH_take (i := 1) (v := ?_) (List.getElem?_toArray.trans rfl) (by kernel_rfl) (by kernel_rfl) (by kernel_rfl) (fun _ _ _ h => h) (Or.inl ⟨by rfl, ?_⟩) hHeld ?_
              rotate_left
              · intro w' hSw; go_simp; try with_reducible rfl
              try simp only [Act.put, List.setIfInBounds_toArray, List.set_cons_zero, List.set_cons_succ]
              refine wpAnyH_take (i := 2) (v := ?_) (List.getElem?_toArray.trans rfl) (by kernel_rfl) (by kernel_rfl) (by kernel_rfl) (fun _ _ _ h => h) (Or.inl ⟨by rfl, ?_⟩) hHeld ?_
              rotate_left
              · intro w' hSw; go_simp; try with_reducible rfl
              try simp only [Act.put, List.setIfInBounds_toArray, List.set_cons_zero, List.set_cons_succ]
              refine wpAnyH_take (i := 3) (v := ?_) (List.getElem?_toArray.trans rfl) (by kernel_rfl) (by kernel_rfl) (by kernel_rfl) (fun _ _ _ h => h) (Or.inl ⟨by rfl, ?_⟩) hHeld ?_
              rotate_left
              · intro w' hSw; have hc := Blk.cell (Blk.keep0 HL.out hSw) i (HCi.out); go_simp; try with_reducible rfl
              try simp only [Act.put, List.setIfInBounds_toArray, List.set_cons_zero, List.set_cons_succ]
              refine wpAnyH_take (i := 4) (v := ?_) (List.getElem?_toArray.trans rfl) (by kernel_rfl) (by kernel_rfl) (by kernel_rfl) (fun _ _ _ h => h) (Or.inl ⟨by rfl, ?_⟩) hHeld ?_
              rotate_left
              · intro w' hSw; go_simp; try with_reducible rfl
              try simp only [Act.put, List.setIfInBounds_toArray, List.set_cons_zero, List.set_cons_succ]
              refine wpAnyH_take (i := 5) (v := ?_) (List.getElem?_toArray.trans rfl) (by kernel_rfl) (by kernel_rfl) (by kernel_rfl) (fun _ _ _ h => h) (Or.inl ⟨by rfl, ?_⟩) hHeld ?_
              rotate_left
              · intro w' hSw; go_simp; try with_reducible rfl
              try simp only [Act.put, List.setIfInBounds_toArray, List.set_cons_zero, List.set_cons_succ]
              refine wpAnyH_take (i := 6) (v := ?_) (List.getElem?_toArray.trans rfl) (by kernel_rfl) (by kernel_rfl) (by kernel_rfl) (fun _ _ _ h => h) (Or.inl ⟨by rfl, ?_⟩) hHeld ?_
              rotate_left
              · intro w' hSw; go_simp; try with_reducible rfl
              try simp only [Act.put, List.setIfInBounds_toArray, List.set_cons_zero, List.set_cons_succ]
              refine wpAnyH_take (i := 7) (v := ?_) (List.getElem?_toArray.trans rfl) (by kernel_rfl) (by kernel_rfl) (by kernel_rfl) (fun _ _ _ h => h) (Or.inl ⟨by rfl, ?_⟩) hHeld ?_
              rotate_left
              · intro w' hSw; have hc := Blk.cell (Blk.keep0 HL.out hSw) k (HCk.out); go_simp; try with_reducible rfl
              try simp only [Act.put, List.setIfInBounds_toArray, List.set_cons_zero, List.set_cons_succ]
              refine wpAnyH_ready (rs := [8, 13]) (by kernel_rfl) (by simp) ?_
              refine AllReadyH.cons (List.getElem?_toArray.trans rfl) (fun K hK => ?_) (AllReadyH.cons (List.getElem?_toArray.trans rfl) (fun K hK => ?_) AllReadyH.nil)
              · skip
                go_simp
                go_at_call 19
                (with_reducible refine (HR.out _).mono ?_)
                rintro e u101 ⟨rfl, gN⟩
                have hL := Blk.keep0 hL gN
                have r18 := RB.keep0 r18 gN
                have gg := gb_trans gg gN
                have hS := gb_trans hS gN
                refine hK.out _ _ hS (fun hHeld => ?_)
                clear hK K
                try simp only [Act.put, List.setIfInBounds_toArray, List.set_cons_zero, List.set_cons_succ]
                refine wpAnyH_take (i := 9) (v := ?_) (List.getElem?_toArray.trans rfl) (by kernel_rfl) (by kernel_rfl) (by kernel_rfl) (fun _ _ _ h => h) (Or.inl ⟨by rfl, ?_⟩) hHeld ?_
                rotate_left
                · intro w' hSw; go_simp; try with_reducible rfl
                try simp only [Act.put, List.setIfInBounds_toArray, List.set_cons_zero, List.set_cons_succ]
                refine wpAnyH_take (i := 10) (v := ?_) (List.getElem?_toArray.trans rfl) (by kernel_rfl) (by kernel_rfl) (by kernel_rfl) (fun _ _ _ h => h) (Or.inl ⟨by rfl, ?_⟩) hHeld ?_
                rotate_left
                · intro w' hSw; go_simp; try with_reducible rfl
                try simp only [Act.put, List.setIfInBounds_toArray, List.set_cons_zero, List.set_cons_succ]
                refine wpAnyH_take (i := 11) (v := ?_) (List.getElem?_toArray.trans rfl) (by kernel_rfl) (by kernel_rfl) (by kernel_rfl) (fun _ _ _ h => h) (Or.inl ⟨by rfl, ?_⟩) hHeld ?_
                rotate_left
                · intro w' hSw; go_simp; try with_reducible rfl
                try simp only [Act.put, List.setIfInBounds_toArray, List.set_cons_zero, List.set_cons_succ]
                refine wpAnyH_take (i := 12) (v := ?_) (List.getElem?_toArray.trans rfl) (by kernel_rfl) (by kernel_rfl) (by kernel_rfl) (fun _ _ _ h => h) (Or.inl ⟨by rfl, ?_⟩) hHeld ?_
                rotate_left
                · intro w' hSw; go_simp; try with_reducible rfl
                try simp only [Act.put, List.setIfInBounds_toArray, List.set_cons_zero, List.set_cons_succ]
                refine wpAnyH_ready (rs := [13]) (by kernel_rfl) (by simp) ?_
                refine AllReadyH.cons (List.getElem?_toArray.trans rfl) (fun K hK => ?_) AllReadyH.nil
                go_simp
                have r21 : RB (u101.alloc (.cells #[.int .u64 0, .int .i64 0, .int .i64 0, .int .i64 0, .int .i64 0, .int .i64 0, .int .i64 0, .int .i64 0, .int .i64 0, .int .i64 0] 25)) u101.heap.size zeroR := Blk.mk u101 25 (rootC zeroR).toArray
                have l_r21 := gg.size
                have ls_r21 := hS.size
                have hL_r21 := Nat.ne_of_lt (Blk.lt hL)
                have r18_r21 := Nat.ne_of_lt (Blk.lt r18)
                have hL := Blk.keep0 hL (gb_alloc u101 (.cells #[.int .u64 0, .int .i64 0, .int .i64 0, .int .i64 0, .int .i64 0, .int .i64 0, .int .i64 0, .int .i64 0, .int .i64 0, .int .i64 0] 25) none)
                have r18 := RB.keep0 r18 (gb_alloc u101 (.cells #[.int .u64 0, .int .i64 0, .int .i64 0, .int .i64 0, .int .i64 0, .int .i64 0, .int .i64 0, .int .i64 0, .int .i64 0, .int .i64 0] 25) none)
                have gg := gb_trans gg (gb_alloc u101 (.cells #[.int .u64 0, .int .i64 0, .int .i64 0, .int .i64 0, .int .i64 0, .int .i64 0, .int .i64 0, .int .i64 0, .int .i64 0, .int .i64 0] 25) none)
                have hS := gb_trans hS (gb_alloc u101 (.cells #[.int .u64 0, .int .i64 0, .int .i64 0, .int .i64 0, .int .i64 0, .int .i64 0, .int .i64 0, .int .i64 0, .int .i64 0, .int .i64 0] 25) none)
                generalize u101.alloc (.cells #[.int .u64 0, .int .i64 0, .int .i64 0, .int .i64 0, .int .i64 0, .int .i64 0, .int .i64 0, .int .i64 0, .int .i64 0, .int .i64 0] 25) = u102 at hL r18 r21 gg hS ⊢
                refine hK.out _ _ hS (fun hHeld => ?_)
                clear hK K
                try simp only [Act.put, List.setIfInBounds_toArray, List.set_cons_zero, List.set_cons_succ]
                refine wpAnyH_ready (rs := [14]) (by kernel_rfl) (by simp) ?_
                refine AllReadyH.cons (List.getElem?_toArray.trans rfl) (fun K hK => ?_) AllReadyH.nil
                with_reducible refine stR 21 119 (u101.heap.size) zeroR pr zero_len HPR.out r21 ?hx ?hy ?_
                case hx => rfl
                case hy => rfl
                have r21 := set_root r21 pr
                have hL := Blk.keep hL (gb_setRow u102 (u101.heap.size) (rootC pr).toArray) (ne_some hL_r21)
                have r18 := RB.keepS r18 (gb_setRow u102 (u101.heap.size) (rootC pr).toArray) (ne_some r18_r21)
                have gg := gb_step gg (gb_setRow u102 (u101.heap.size) (rootC pr).toArray) l_r21
                have hS := gb_step hS (gb_setRow u102 (u101.heap.size) (rootC pr).toArray) ls_r21
                generalize u102.setRow (u101.heap.size) (rootC pr).toArray = u103 at hL r18 r21 gg hS ⊢
                refine hK.out _ _ hS (fun hHeld => ?_)
                clear hK K
                try simp only [Act.put, List.setIfInBounds_toArray, List.set_cons_zero, List.set_cons_succ]
                refine wpAnyH_take (i := 15) (v := ?_) (List.getElem?_toArray.trans rfl) (by kernel_rfl) (by kernel_rfl) (by kernel_rfl) (fun _ _ _ h => h) (Or.inl ⟨by rfl, ?_⟩) hHeld ?_
                rotate_left
                · intro w' hSw; go_simp; try with_reducible rfl
                try simp only [Act.put, List.setIfInBounds_toArray, List.set_cons_zero, List.set_cons_succ]
                refine wpAnyH_take (i := 16) (v := ?_) (List.getElem?_toArray.trans rfl) (by kernel_rfl) (by kernel_rfl) (by kernel_rfl) (fun _ _ _ h => h) (Or.inl ⟨by rfl, ?_⟩) hHeld ?_
                rotate_left
                · intro w' hSw; go_simp; try with_reducible rfl
                try simp only [Act.put, List.setIfInBounds_toArray, List.set_cons_zero, List.set_cons_succ]
                refine wpAnyH_done (by kernel_rfl) ?_ _
                refine NoPanic.normal ?_
                have hsr : sameR pr pr = true := (sameR_iff pr pr HPR.out HPR.out).2 rfl
                have he := fun W => equal_roots pr pr HPR.out HPR.out W
                have hg := root_guard
                go_wp2_with (first
                  | ((with_reducible refine ld 18 (b18) pr HPR.out r18 ?_ ?_); rfl)
                  | ((with_reducible refine ld 21 (u101.heap.size) pr HPR.out r21 ?_ ?_); rfl)
                  | fail)
                go_roundw
                case rel => exact ⟨k + 1, by omega, by go_num, hL, gg⟩
                case measure => simp [intOf]; omega
              · skip
                go_simp
                have r21 : RB (u0.alloc (.cells #[.int .u64 0, .int .i64 0, .int .i64 0, .int .i64 0, .int .i64 0, .int .i64 0, .int .i64 0, .int .i64 0, .int .i64 0, .int .i64 0] 25)) u0.heap.size zeroR := Blk.mk u0 25 (rootC zeroR).toArray
                have l_r21 := gg.size
                have ls_r21 := hS.size
                have hL_r21 := Nat.ne_of_lt (Blk.lt hL)
                have r18_r21 := Nat.ne_of_lt (Blk.lt r18)
                have hL := Blk.keep0 hL (gb_alloc u0 (.cells #[.int .u64 0, .int .i64 0, .int .i64 0, .int .i64 0, .int .i64 0, .int .i64 0, .int .i64 0, .int .i64 0, .int .i64 0, .int .i64 0] 25) none)
                have r18 := RB.keep0 r18 (gb_alloc u0 (.cells #[.int .u64 0, .int .i64 0, .int .i64 0, .int .i64 0, .int .i64 0, .int .i64 0, .int .i64 0, .int .i64 0, .int .i64 0, .int .i64 0] 25) none)
                have gg := gb_trans gg (gb_alloc u0 (.cells #[.int .u64 0, .int .i64 0, .int .i64 0, .int .i64 0, .int .i64 0, .int .i64 0, .int .i64 0, .int .i64 0, .int .i64 0, .int .i64 0] 25) none)
                have hS := gb_trans hS (gb_alloc u0 (.cells #[.int .u64 0, .int .i64 0, .int .i64 0, .int .i64 0, .int .i64 0, .int .i64 0, .int .i64 0, .int .i64 0, .int .i64 0, .int .i64 0] 25) none)
                generalize u0.alloc (.cells #[.int .u64 0, .int .i64 0, .int .i64 0, .int .i64 0, .int .i64 0, .int .i64 0, .int .i64 0, .int .i64 0, .int .i64 0, .int .i64 0] 25) = u104 at hL r18 r21 gg hS ⊢
                refine hK.out _ _ hS (fun hHeld => ?_)
                clear hK K
                try simp only [Act.put, List.setIfInBounds_toArray, List.set_cons_zero, List.set_cons_succ]
                refine wpAnyH_ready (rs := [8]) (by kernel_rfl) (by simp) ?_
                refine AllReadyH.cons (List.getElem?_toArray.trans rfl) (fun K hK => ?_) AllReadyH.nil
                go_simp
                go_at_call 19
                (with_reducible refine (HR.out _).mono ?_)
                rintro e u105 ⟨rfl, gN⟩
                have hL := Blk.keep0 hL gN
                have r18 := RB.keep0 r18 gN
                have r21 := RB.keep0 r21 gN
                have gg := gb_trans gg gN
                have hS := gb_trans hS gN
                refine hK.out _ _ hS (fun hHeld => ?_)
                clear hK K
                try simp only [Act.put, List.setIfInBounds_toArray, List.set_cons_zero, List.set_cons_succ]
                refine wpAnyH_take (i := 9) (v := ?_) (List.getElem?_toArray.trans rfl) (by kernel_rfl) (by kernel_rfl) (by kernel_rfl) (fun _ _ _ h => h) (Or.inl ⟨by rfl, ?_⟩) hHeld ?_
                rotate_left
                · intro w' hSw; go_simp; try with_reducible rfl
                try simp only [Act.put, List.setIfInBounds_toArray, List.set_cons_zero, List.set_cons_succ]
                refine wpAnyH_take (i := 10) (v := ?_) (List.getElem?_toArray.trans rfl) (by kernel_rfl) (by kernel_rfl) (by kernel_rfl) (fun _ _ _ h => h) (Or.inl ⟨by rfl, ?_⟩) hHeld ?_
                rotate_left
                · intro w' hSw; go_simp; try with_reducible rfl
                try simp only [Act.put, List.setIfInBounds_toArray, List.set_cons_zero, List.set_cons_succ]
                refine wpAnyH_take (i := 11) (v := ?_) (List.getElem?_toArray.trans rfl) (by kernel_rfl) (by kernel_rfl) (by kernel_rfl) (fun _ _ _ h => h) (Or.inl ⟨by rfl, ?_⟩) hHeld ?_
                rotate_left
                · intro w' hSw; go_simp; try with_reducible rfl
                try simp only [Act.put, List.setIfInBounds_toArray, List.set_cons_zero, List.set_cons_succ]
                refine wpAnyH_take (i := 12) (v := ?_) (List.getElem?_toArray.trans rfl) (by kernel_rfl) (by kernel_rfl) (by kernel_rfl) (fun _ _ _ h => h) (Or.inl ⟨by rfl, ?_⟩) hHeld ?_
                rotate_left
                · intro w' hSw; go_simp; try with_reducible rfl
                try simp only [Act.put, List.setIfInBounds_toArray, List.set_cons_zero, List.set_cons_succ]
                refine wpAnyH_ready (rs := [14]) (by kernel_rfl) (by simp) ?_
                refine AllReadyH.cons (List.getElem?_toArray.trans rfl) (fun K hK => ?_) AllReadyH.nil
                with_reducible refine stR 21 119 (u0.heap.size) zeroR pr zero_len HPR.out r21 ?hx ?hy ?_
                case hx => rfl
                case hy => rfl
                have r21 := set_root r21 pr
                have hL := Blk.keep hL (gb_setRow u105 (u0.heap.size) (rootC pr).toArray) (ne_some hL_r21)
                have r18 := RB.keepS r18 (gb_setRow u105 (u0.heap.size) (rootC pr).toArray) (ne_some r18_r21)
                have gg := gb_step gg (gb_setRow u105 (u0.heap.size) (rootC pr).toArray) l_r21
                have hS := gb_step hS (gb_setRow u105 (u0.heap.size) (rootC pr).toArray) ls_r21
                generalize u105.setRow (u0.heap.size) (rootC pr).toArray = u106 at hL r18 r21 gg hS ⊢
                refine hK.out _ _ hS (fun hHeld => ?_)
                clear hK K
                try simp only [Act.put, List.setIfInBounds_toArray, List.set_cons_zero, List.set_cons_succ]
                refine wpAnyH_take (i := 15) (v := ?_) (List.getElem?_toArray.trans rfl) (by kernel_rfl) (by kernel_rfl) (by kernel_rfl) (fun _ _ _ h => h) (Or.inl ⟨by rfl, ?_⟩) hHeld ?_
                rotate_left
                · intro w' hSw; go_simp; try with_reducible rfl
                try simp only [Act.put, List.setIfInBounds_toArray, List.set_cons_zero, List.set_cons_succ]
                refine wpAnyH_take (i := 16) (v := ?_) (List.getElem?_toArray.trans rfl) (by kernel_rfl) (by kernel_rfl) (by kernel_rfl) (fun _ _ _ h => h) (Or.inl ⟨by rfl, ?_⟩) hHeld ?_
                rotate_left
                · intro w' hSw; go_simp; try with_reducible rfl
                try simp only [Act.put, List.setIfInBounds_toArray, List.set_cons_zero, List.set_cons_succ]
                refine wpAnyH_done (by kernel_rfl) ?_ _
                refine NoPanic.normal ?_
                have hsr : sameR pr pr = true := (sameR_iff pr pr HPR.out HPR.out).2 rfl
                have he := fun W => equal_roots pr pr HPR.out HPR.out W
                have hg := root_guard
                go_wp2_with (first
                  | ((with_reducible refine ld 18 (b18) pr HPR.out r18 ?_ ?_); rfl)
                  | ((with_reducible refine ld 21 (u0.heap.size) pr HPR.out r21 ?_ ?_); rfl)
                  | fail)
                go_roundw
                case rel => exact ⟨k + 1, by omega, by go_num, hL, gg⟩
                case measure => simp [intOf]; omega
          · obtain rfl : k = 7 := by omega
            go_wp2
            go_roundw
            case rel => exact ⟨i + 1, by omega, by go_num, hL, gg⟩
            case measure => simp [intOf]; omega
      · obtain rfl : i = 7 := by omega
        go_wp2_with (first
          | (go_at_call 16; (with_reducible refine (HWk.out _ gg).mono ?_); rintro e v9 ⟨rfl, g9⟩; have gg := gb_trans gg g9)
          | fail)
        go_ret
        exact ⟨rfl, gg⟩

end Go.Proofs.YtckkbcgolphajaaDoor
