/-
  How many came ahead of the torn write (fate.aheadOf), over this seat's translation; conditions: the slice reads as a list of bools.
-/
import Derived.Test.YtcoegaipojnndaaDoorFt4
namespace Go.Proofs.YtcoegaipojnndaaDoor
open Go.RowKit Go.Shelf
attribute [local go_sem] Oper.semAt_some

def aheadN (l : List Bool) (t : Int) : Nat := if 0 ≤ t ∧ t < (l.length : Int) ∧ l.getD t.toNat false = true then (cameTo l t.toNat).length else 0
theorem ahead_at (l : List Bool) (x : Came l) {t : Int} (h : (x.1.2 : Int) = t) : aheadN l t = x.1.1 := by
  subst h
  unfold aheadN
  rw [if_pos ⟨by omega, by have := x.2.1; omega, x.2.2.1⟩]
  exact x.2.2.2.symm
theorem ahead_none (l : List Bool) (ys : List (Came l)) (t : Int) (hy : ys.map (fun x => x.1.2) = cameTo l l.length) (h : ∀ y ∈ ys, (y.1.2 : Int) ≠ t) : aheadN l t = 0 := by
  unfold aheadN
  by_cases hc : 0 ≤ t ∧ t < (l.length : Int) ∧ l.getD t.toNat false = true
  · exfalso
    obtain ⟨h0, h1, h2⟩ := hc
    have h3 := came_get l l.length t.toNat (by omega) h2
    rw [← hy, List.getElem?_map] at h3
    obtain ⟨y, hy1, hy2⟩ := Option.map_eq_some_iff.1 h3
    exact h y (List.mem_of_getElem? hy1) (by omega)
  · rw [if_neg hc]
theorem int_row {fn : Func} {p : Tmp} (h : fn.results = #[.cell p 3]) (tmps : Array Value) (w : World) (B : Nat) (z : Int)
    (hp : tmps.getD p undef = .pointer (some ⟨B, 0, none⟩)) (hb : Blk w B 3 #[.int .i64 z]) : (results fn tmps).run Tryd.prog w = .ok (.int .i64 z) w := by
  have r0 := hb.cell 0 rfl
  have hp' : tmps[p]?.getD undef = .pointer (some ⟨B, 0, none⟩) := by simpa using hp
  simp [results, h, hp', go_sem, r0]
def AheadGot (w : World) (l : List Bool) (t : Int) (e : Ending) (w' : World) : Prop := e = .returned (.int .i64 (aheadN l t : Nat)) ∧ w.grownBy w' none
set_option maxRecDepth 100000 in
set_option maxHeartbeats 1000000 in
theorem aheadOf_any (v : Value) (b : List Bool) (t a : Int) (w : World) (hv : Bls w v b) (hb : b.length ≤ 1000000) : Calls Tryd.prog 33 #[.agg #[v, .int .i64 t, .int .i64 a]] w (AheadGot w b t) := by
  obtain ⟨ao, cap, rfl, hnil, hcells⟩ := bls_parts hv
  have HN := Lib.hid hnil
  have HC := Lib.hid hcells
  clear hnil hcells hv
  refine (callsIn_wide (n := 5)).1 ?_
  refine callsIn_of_wp_marks Tryd.func33 rfl trivial ?_ rfl
  simp only [Tryd.ntmps33, List.size_toArray, List.length_cons, List.length_nil, Nat.reduceAdd, Nat.reduceSub, Array.replicate_succ, Array.replicate_zero, List.push_toArray, List.append_toArray, List.nil_append, List.cons_append]
  gi_wp2_with (refine ⟨trivial, ?_⟩; gi_at_call 35; (with_reducible refine (callsIn_wide.2 (arrived_any _ _ _ _)).mono ?_); rintro e w' ⟨rfl, rfl⟩)
  have b0 := ((Blk.mk w 25 #[.slice ao b.length cap, .int .i64 t, .int .i64 a]).keep0 (gb_alloc _ (.cells #[.int .i64 0] 3) none)).keep0 (gb_alloc _ (.cells #[.slice ao b.length cap] 23) none)
  have b1 := (Blk.mk (w.alloc (.cells #[.slice ao b.length cap, .int .i64 t, .int .i64 a] 25)) 3 #[.int .i64 0]).keep0 (gb_alloc _ (.cells #[.slice ao b.length cap] 23) none)
  have b2 := Blk.mk ((w.alloc (.cells #[.slice ao b.length cap, .int .i64 t, .int .i64 a] 25)).alloc (.cells #[.int .i64 0] 3)) 23 #[.slice ao b.length cap]
  have g0 : w.grownBy (((w.alloc (.cells #[.slice ao b.length cap, .int .i64 t, .int .i64 a] 25)).alloc (.cells #[.int .i64 0] 3)).alloc (.cells #[.slice ao b.length cap] 23)) none := gb_trans (gb_trans (gb_alloc _ _ _) (gb_alloc _ _ _)) (gb_alloc _ _ _)
  have hsz : (((w.alloc (.cells #[.slice ao b.length cap, .int .i64 t, .int .i64 a] 25)).alloc (.cells #[.int .i64 0] 3)).alloc (.cells #[.slice ao b.length cap] 23)).heap.size = w.heap.size + 3 := by simp
  simp only [World.size_alloc] at b1 b2
  generalize ((w.alloc (.cells #[.slice ao b.length cap, .int .i64 t, .int .i64 a] 25)).alloc (.cells #[.int .i64 0] 3)).alloc (.cells #[.slice ao b.length cap] 23) = W0 at b0 b1 b2 g0 hsz ⊢
  refine wpIn_rangeFunc_ownF (a₁ := ?fr) rfl (by omega) (gf := 50) (lb := #[.pointer (some ⟨w.heap.size + 1 + 1, 0, none⟩)]) rfl trivial (enters_of Tryd.func50 (by kernel_rfl) rfl)
    (arrived_stops Fence.wide _ trivial rfl (by omega) (w.heap.size + 1 + 1) w.heap.size ao cap b hb W0 (by omega) (by omega) (b2.cell 0 rfl) HN.out (fun a e hp => low_of HC.out a e hp) (fun a e j u hj => g0.cell (HC.out a e j u hj) (by simp))) kept_t kept_b (Below.refl _ _) (fun _ => rfl)
    (fun pre W => Blk W w.heap.size 25 #[.slice ao b.length cap, .int .i64 t, .int .i64 a] ∧ Blk W (w.heap.size + 1) 3 #[.int .i64 0] ∧ Below w.heap.size w W ∧ ∀ y ∈ pre, (y.1.2 : Int) ≠ t)
    (fun c _ W => c = Code.ret ∧ Blk W (w.heap.size + 1) 3 #[.int .i64 (aheadN b t : Nat)] ∧ Below w.heap.size w W)
    (OwnFrom.and (blk_own _ _ _ _) (OwnFrom.and (blk_own _ _ _ _) (OwnFrom.and (ownFrom_below (Nat.le_refl _) (by omega)) (fun _ _ _ _ h _ _ => h))))
    (fun _ => OwnFrom.and (fun _ _ _ _ h _ _ => h) (OwnFrom.and (blk_own _ _ _ _) (ownFrom_below (Nat.le_refl _) (by omega))))
    ⟨b0, b1, gb_below g0, by simp⟩
    ?assign ?body ?done ?stop
  case assign =>
    intro l x W K hK
    gi_wp2
    exact hK
  case body =>
    rintro l pre x W ⟨hT0, hT1, hB, hne⟩ hpl
    have c0 := hT0.cell 1 rfl
    have d0 := hT1.cell 0 rfl
    have e0 := hT1.free 0
    by_cases hx : (x.1.2 : Int) = t
    · have hx1 : ((x.1.2 : Int) == t) = true := by rw [hx]; simp
      have hA := ahead_at b x hx
      have HA := Lib.hid hA
      clear hA
      gi_wp2
      exact ⟨KeepsOthers.setCell _ _ _, rfl, by rw [HA.out]; exact hT1.set 0 _, hB.setCell (p := ⟨w.heap.size + 1, 0, none⟩) (by simp) _⟩
    · have hx1 : ((x.1.2 : Int) == t) = false := beq_eq_false_iff_ne.2 hx
      gi_wp2
      refine ⟨KeepsOthers.refl _, kept_refl _ _, hT0, hT1, hB, ?_⟩
      intro z hz
      rcases List.mem_append.1 hz with h | h
      · exact hne z h
      · rw [List.mem_singleton.1 h]; exact hx
  case done =>
    rintro D ys W hD hys ⟨hT0, hT1, hB, hne⟩ hK
    have H := Lib.hid (ahead_none b ys t hys hne)
    have d0 := hT1.cell 0 rfl
    have e0 := hT1.free 0
    clear hne
    gi_wp2
    refine ⟨by simp, .inl ⟨_, _, rfl, run_takeDeferred (show (W.setCell ⟨w.heap.size + 1, 0, none⟩ (.int .i64 0)).heap[D]? = _ from (Below.heap_setCell W ⟨w.heap.size + 1, 0, none⟩ (.int .i64 0) D (by show D ≠ w.heap.size + 1; omega)).trans hK), ?_⟩⟩
    refine ⟨_, int_row rfl _ _ (w.heap.size + 1) _ rfl ((hT1.set 0 _).keep (grownBy_putObj' _ D _) (ne_some (by omega))), ?_⟩
    exact ⟨by rw [H.out]; rfl, gb_step (gb_step (gb_of_below hB) (gb_set _ _ _ _ _) (by omega)) (grownBy_putObj' _ D _) (by omega)⟩
  case stop =>
    rintro D c pre W hD ⟨k, hk, _⟩ ⟨rfl, hT1, hB⟩ hK
    gi_wp2
    refine ⟨by simp, .inl ⟨_, _, rfl, run_takeDeferred hK, ?_⟩⟩
    refine ⟨_, int_row rfl _ _ (w.heap.size + 1) _ rfl (hT1.keep (grownBy_putObj' _ D _) (ne_some (by omega))), ?_⟩
    exact ⟨rfl, gb_step (gb_of_below hB) (grownBy_putObj' _ D _) (by omega)⟩
end Go.Proofs.YtcoegaipojnndaaDoor

