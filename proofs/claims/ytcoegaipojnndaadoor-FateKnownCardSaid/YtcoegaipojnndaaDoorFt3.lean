/-
  How many writes came (fate.count), over this seat's translation; conditions: the slice reads as a list of bools.
-/
import Derived.Laws.Rows
import Derived.Test.YtcoegaipojnndaaDoorFt2
namespace Go.Proofs.YtcoegaipojnndaaDoor
open Go.RowKit Go.Shelf
attribute [local go_sem] Oper.semAt_some

theorem blk_own {β : Type} (N B : Nat) (t : TypeId) (f : β → Array Value) : OwnFrom N (fun s W => Blk W B t (f s)) := by
  intro s W W' row h g hr
  refine Blk.keep h g ?_
  intro e
  obtain ⟨_, o, ho, hc⟩ := hr B e.symm
  unfold Blk at h
  rw [h] at ho; cases ho; cases hc
theorem came_len (b : List Bool) (ys : List (Came b)) (h : ys.map (fun x => x.1.2) = cameTo b b.length) : ys.length = (cameTo b b.length).length := by rw [← h, List.length_map]
theorem came_le (b : List Bool) (pre : List (Came b)) (k : Nat) (hk : k ≤ b.length) (h : pre.map (fun x => x.1.2) = cameTo b k) : pre.length ≤ b.length := by
  have := cameTo_le b k
  rw [← h, List.length_map] at this; omega
/-- What a slice of bools gives an iterator over it. -/
theorem bls_parts {w : World} {v : Value} {b : List Bool} (h : Bls w v b) : ∃ (ao : Option Addr) (cap : Nat), v = .slice ao b.length cap ∧ (ao = none → b.length = 0) ∧ (∀ a, ao = some a → ∀ j u, (bools b)[j]? = some u → w.cell? (a.add j) = some u) := by
  obtain ⟨ao, cap, h1, _, _, h4, h5⟩ := h
  exact ⟨ao, cap, h1, fun e => (h4 e).1, h5⟩
theorem Bls.keep0 {w w' : World} {v : Value} {b : List Bool} (h : Bls w v b) (g : w.grownBy w' none) : Bls w' v b := Sl.keep0 h g
theorem Bts.keep0 {w w' : World} {v : Value} {b : List UInt8} (h : Bts w v b) (g : w.grownBy w' none) : Bts w' v b := Sl.keep0 h g
theorem add_zero (a : Addr) : a.add 0 = a := by unfold Addr.add; exact if_pos rfl
/-- A function whose named result is a fate in a block. -/
theorem fate_row {fn : Func} {p : Tmp} (h : fn.results = #[.cell p 25]) (tmps : Array Value) (w : World) (B : Nat) (x y z : Value)
    (hp : tmps.getD p undef = .pointer (some ⟨B, 0, none⟩)) (hb : Blk w B 25 #[x, y, z]) : (results fn tmps).run Tryd.prog w = .ok (.agg #[x, y, z]) w :=
  results_cell_row h tmps w B _ _ (0, 0) _ hp hb Tryd.underlying25 rfl (by show _ = some 3; kernel_rfl)
/-- Three stores fill such a block. -/
theorem blk_fill {w : World} {B : Nat} {x y z : Value} (hb : Blk w B 25 #[x, y, z]) (x' y' z' : Value) : Blk (((w.setCell ⟨B, 0, none⟩ x').setCell ⟨B, 1, none⟩ y').setCell ⟨B, 2, none⟩ z') B 25 #[x', y', z'] :=
  ((hb.set 0 x').set 1 y').set 2 z'
theorem gb_fill {w w1 : World} {B : Nat} (h : w.grownBy w1 none) (hB : w.heap.size ≤ B) (x' y' z' : Value) : w.grownBy (((w1.setCell ⟨B, 0, none⟩ x').setCell ⟨B, 1, none⟩ y').setCell ⟨B, 2, none⟩ z') none :=
  gb_step (gb_step (gb_step h (gb_set _ _ _ _ _) hB) (gb_set _ _ _ _ _) hB) (gb_set _ _ _ _ _) hB
theorem cell_lt {w : World} {p : Addr} {v : Value} (h : w.cell? p = some v) : p.block < w.heap.size := by
  rcases Nat.lt_or_ge p.block w.heap.size with h1 | h1
  · exact h1
  · simp [World.cell?, Array.getElem?_eq_none h1] at h
theorem low_of {w : World} {ao : Option Addr} {b : List Bool} (h : ∀ a, ao = some a → ∀ j u, (bools b)[j]? = some u → w.cell? (a.add j) = some u) (a : Addr) (e : ao = some a) (hp : 0 < b.length) : a.block < w.heap.size := by
  have := cell_lt (h a e 0 _ (bools_at hp))
  rwa [add_block] at this
set_option maxRecDepth 100000 in
set_option maxHeartbeats 1000000 in
theorem count_any (v : Value) (b : List Bool) (w : World) (hv : Bls w v b) (hb : b.length ≤ 1000000) :
    Calls Tryd.prog 51 #[v] w fun e w' => e = .returned (.int .i64 ((cameTo b b.length).length : Nat)) ∧ w.grownBy w' none := by
  obtain ⟨ao, cap, rfl, hnil, hcells⟩ := bls_parts hv
  have HN := Lib.hid hnil
  have HC := Lib.hid hcells
  clear hnil hcells hv
  refine (callsIn_wide (n := 5)).1 ?_
  refine callsIn_of_wp_marks Tryd.func51 rfl trivial ?_ rfl
  simp only [Tryd.ntmps51, List.size_toArray, List.length_cons, List.length_nil, Nat.reduceAdd, Nat.reduceSub, Array.replicate_succ, Array.replicate_zero, List.push_toArray, List.append_toArray, List.nil_append, List.cons_append]
  gi_wp2_with (refine ⟨trivial, ?_⟩; gi_at_call 35; (with_reducible refine (callsIn_wide.2 (arrived_any _ _ _ _)).mono ?_); rintro e w' ⟨rfl, rfl⟩)
  have b0 := (Blk.mk w 3 #[.int .i64 0]).keep0 (gb_alloc _ (.cells #[.slice ao b.length cap] 23) none)
  have b1 := Blk.mk (w.alloc (.cells #[.int .i64 0] 3)) 23 #[.slice ao b.length cap]
  have g0 : w.grownBy ((w.alloc (.cells #[.int .i64 0] 3)).alloc (.cells #[.slice ao b.length cap] 23)) none := gb_trans (gb_alloc _ _ _) (gb_alloc _ _ _)
  have hsz : ((w.alloc (.cells #[.int .i64 0] 3)).alloc (.cells #[.slice ao b.length cap] 23)).heap.size = w.heap.size + 2 := by simp
  simp only [World.size_alloc] at b1
  generalize (w.alloc (.cells #[.int .i64 0] 3)).alloc (.cells #[.slice ao b.length cap] 23) = W0 at b0 b1 g0 hsz ⊢
  refine wpIn_rangeFunc_ownF rfl (by omega) (gf := 50) (lb := #[.pointer (some ⟨w.heap.size + 1, 0, none⟩)]) rfl trivial (enters_of Tryd.func50 (by kernel_rfl) rfl)
    (arrived_stops Fence.wide _ trivial rfl (by omega) (w.heap.size + 1) w.heap.size ao cap b hb W0 (by omega) (by omega) (b1.cell 0 rfl) HN.out (fun a e hp => low_of HC.out a e hp) (fun a e j u hj => g0.cell (HC.out a e j u hj) (by simp))) kept_t kept_b (Below.refl _ _) (fun _ => rfl)
    (fun pre W => Blk W w.heap.size 3 #[.int .i64 (pre.length : Nat)] ∧ Below w.heap.size w W)
    (fun _ _ _ => False)
    (OwnFrom.and (blk_own _ _ _ _) (ownFrom_below (Nat.le_refl _) (by omega)))
    (fun _ _ _ _ _ hs _ _ => hs)
    ⟨b0, gb_below g0⟩
    (fun x => { tmps := #[.slice ao b.length cap, undef, .int .i64 0, .pointer (some ⟨w.heap.size, 0, none⟩), .slice ao b.length cap, .func (.func 50) #[] #[.pointer (some ⟨w.heap.size + 1, 0, none⟩)], .int .i64 (x.1.1 : Nat), .int .i64 (x.1.2 : Nat), undef, undef, undef], defers := [] }) ?assign ?body ?done ?stop
  case assign =>
    intro l x W K hK
    gi_wp2
    simpa using hK
  case body =>
    rintro l pre x W ⟨hT, hB⟩ hpl
    have c0 := hT.cell 0 rfl
    have f0 := hT.free 0
    gi_wp2
    refine ⟨KeepsOthers.setCell _ _ _, ?_, ?_, ?_⟩
    · exact kept_below ((Below.refl _ W).setCell (p := ⟨w.heap.size, 0, none⟩) (Nat.le_refl _) _)
    · have := hT.set 0 (.int .i64 ((pre ++ [x]).length : Nat))
      simpa using this
    · exact hB.setCell (p := ⟨w.heap.size, 0, none⟩) (Nat.le_refl _) _
  case done =>
    rintro D ys W hD hys ⟨hT, hB⟩ hK
    have c0 := hT.cell 0 rfl
    rw [came_len b ys hys] at c0
    gi_wp2
    refine ⟨by simp, .inl ⟨_, _, rfl, run_takeDeferred hK, ?_⟩⟩
    exact ⟨_, results_tmp rfl _ _ _, rfl, gb_of_below (hB.trans (belowK_b (w := w) (Nat.le_refl _) W D _ _ (by omega) hK rfl rfl))⟩
  case stop =>
    rintro D c pre W _ _ h _
    exact h.elim
end Go.Proofs.YtcoegaipojnndaaDoor

