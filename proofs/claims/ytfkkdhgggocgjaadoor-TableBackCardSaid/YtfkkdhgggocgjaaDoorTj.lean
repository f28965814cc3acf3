/-
  What Lowest and Sectors answer, over this seat's translation; conditions: the table's block is there, or there is no table.
-/
import Derived.Test.YtfkkdhgggocgjaaDoorTi
namespace Go.Proofs.YtfkkdhgggocgjaaDoor
open Go.RowKit Go.Shelf
attribute [local go_sem] Oper.semAt_some

theorem keep0_t {A B C : World} (_ : Keep0 A B) (_ : Keep0 B C) : Keep0 A C := trivial
theorem blk_own {β : Type} (N B : Nat) (t : TypeId) (f : β → Array Value) : OwnFrom N (fun s W => Blk W B t (f s)) := by
  intro s W W' row h g hr
  refine Blk.keep h g ?_
  intro e
  obtain ⟨_, o, ho, hc⟩ := hr B e.symm
  unfold Blk at h
  rw [h] at ho; cases ho; cases hc
/-- What a beginning of all pages tells of the lowest one. -/
theorem low_of_pre {P : List Nat} (hP : P.length = 960) {k : Nat} (hk : k ≤ 960) {pre : List (Nat × Nat)} {x : Nat × Nat} (h : pre ++ [x] = (allF P).take k) (hb : ∀ y ∈ pre, y.2 ≠ 0) (hx : x.2 = 0) : lowN P = x.1 ∧ lowE P = 0 := by
  have hl : pre.length + 1 = k := by
    have := congrArg List.length h
    rw [List.length_append, List.length_take, allF_length] at this
    simp at this; omega
  have hget : ∀ j y, (pre ++ [x])[j]? = some y → y = (j + 1, P.getD j 0) := by
    intro j y hj
    have h1 : j < k := by have := (List.getElem?_eq_some_iff.1 hj).1; simp at this; omega
    rw [h, List.getElem?_take, if_pos h1, allF_at P (by omega)] at hj
    exact (Option.some.inj hj).symm
  have hxk := hget pre.length x (by simp)
  obtain ⟨h1, h2⟩ := low_told (P := P) (k := pre.length) (by omega) (by rw [hxk] at hx; exact hx) (fun j hj => by
    have h3 : (pre ++ [x])[j]? = some pre[j] := by rw [List.getElem?_append_left hj, List.getElem?_eq_getElem hj]
    have h4 := hget j _ h3
    have h5 := hb pre[j] (List.getElem_mem hj)
    rw [h4] at h5; exact h5)
  rw [h1, hxk]; exact ⟨rfl, h2⟩
theorem low_of_all {P : List Nat} (hP : P.length = 960) (hb : ∀ y ∈ allF P, y.2 ≠ 0) : lowN P = 0 ∧ lowE P = 15 :=
  low_full fun j hj => hb (j + 1, P.getD j 0) (List.mem_of_getElem? (allF_at P (by omega)))
theorem two_rows {fn : Func} {p q : Tmp} (h : fn.results = #[.cell p 3, .cell q 30]) (tmps : Array Value) (w : World) (B C : Nat) (y z : Int)
    (hp : tmps.getD p undef = .pointer (some ⟨B, 0, none⟩)) (hq : tmps.getD q undef = .pointer (some ⟨C, 0, none⟩)) (hb : Blk w B 3 #[.int .i64 y]) (hc : Blk w C 30 #[.int .i64 z]) : (results fn tmps).run Tryd.prog w = .ok (.tuple #[.int .i64 y, .int .i64 z]) w := by
  have r0 := hb.cell 0 rfl
  have r1 := hc.cell 0 rfl
  have hp' : tmps[p]?.getD undef = .pointer (some ⟨B, 0, none⟩) := by simpa using hp
  have hq' : tmps[q]?.getD undef = .pointer (some ⟨C, 0, none⟩) := by simpa using hq
  simp [results, h, hp', hq', go_sem, r0, r1]
theorem lowest_nil (w : World) : Calls Tryd.prog 27 #[.pointer none] w fun e w' => e = .returned (.tuple #[.int .i64 0, .int .i64 1]) ∧ w.grownBy w' none := by
  go_enter Tryd.func27, Tryd.ntmps27
  go_wp2
  have b0 := (Blk.mk w 3 #[.int .i64 0]).keep0 (gb_alloc _ (.cells #[.int .i64 1] 30) none)
  have b1 := Blk.mk (w.alloc (.cells #[.int .i64 0] 3)) 30 #[.int .i64 1]
  have g0 : w.grownBy ((w.alloc (.cells #[.int .i64 0] 3)).alloc (.cells #[.int .i64 1] 30)) none := gb_trans (gb_alloc _ _ _) (gb_alloc _ _ _)
  simp only [World.size_alloc] at b1
  exact bodyPost_ret (two_rows rfl _ _ w.heap.size (w.heap.size + 1) _ _ rfl rfl b0 b1) rfl ⟨rfl, g0⟩
def LowGot (w : World) (P : List Nat) (e : Ending) (w' : World) : Prop := e = .returned (.tuple #[.int .i64 (lowN P : Nat), .int .i64 (lowE P : Nat)]) ∧ w.grownBy w' none
set_option maxRecDepth 100000 in
set_option maxHeartbeats 1000000 in
theorem lowest_any (p : Nat) (s : TB) (w : World) (h : PT w p s) : Calls Tryd.prog 27 #[.pointer (some ⟨p, 0, none⟩)] w (LowGot w s.P) := by
  have hp := h.lt
  refine (callsIn_wide (n := 5)).1 ?_
  refine callsIn_of_wp_marks Tryd.func27 rfl trivial ?_ rfl
  simp only [Tryd.ntmps27, List.size_toArray, List.length_cons, List.length_nil, Nat.reduceAdd, Nat.reduceSub, Array.replicate_succ, Array.replicate_zero, List.push_toArray, List.append_toArray, List.nil_append, List.cons_append]
  gi_wp2_with (refine ⟨trivial, ?_⟩; gi_at_call 43; (with_reducible refine (callsIn_wide.2 (all_any _ _)).mono ?_); rintro e w' ⟨rfl, rfl⟩)
  have b0 := ((Blk.mk w 3 #[.int .i64 0]).keep0 (gb_alloc _ (.cells #[.int .i64 0] 30) none)).keep0 (gb_alloc _ (.cells #[.pointer (some ⟨p, 0, none⟩)] 23) none)
  have b1 := (Blk.mk (w.alloc (.cells #[.int .i64 0] 3)) 30 #[.int .i64 0]).keep0 (gb_alloc _ (.cells #[.pointer (some ⟨p, 0, none⟩)] 23) none)
  have b2 := Blk.mk ((w.alloc (.cells #[.int .i64 0] 3)).alloc (.cells #[.int .i64 0] 30)) 23 #[.pointer (some ⟨p, 0, none⟩)]
  have g0 : w.grownBy (((w.alloc (.cells #[.int .i64 0] 3)).alloc (.cells #[.int .i64 0] 30)).alloc (.cells #[.pointer (some ⟨p, 0, none⟩)] 23)) none := gb_trans (gb_trans (gb_alloc _ _ _) (gb_alloc _ _ _)) (gb_alloc _ _ _)
  have hsz : (((w.alloc (.cells #[.int .i64 0] 3)).alloc (.cells #[.int .i64 0] 30)).alloc (.cells #[.pointer (some ⟨p, 0, none⟩)] 23)).heap.size = w.heap.size + 3 := by simp
  simp only [World.size_alloc] at b1 b2
  generalize ((w.alloc (.cells #[.int .i64 0] 3)).alloc (.cells #[.int .i64 0] 30)).alloc (.cells #[.pointer (some ⟨p, 0, none⟩)] 23) = W0 at b0 b1 b2 g0 hsz ⊢
  have hP0 := h.keep0 g0
  have HF := Lib.hid h.fit
  clear h
  refine wpIn_rangeFunc_ownF (a₁ := ?fr) rfl (by omega) (gf := 54) (lb := #[.pointer (some ⟨w.heap.size + 1 + 1, 0, none⟩)]) rfl trivial (enters_of Tryd.func54 (by kernel_rfl) rfl)
    (all_stops _ (by omega) (w.heap.size + 1 + 1) p s W0 (by omega) (b2.cell 0 rfl) hP0) keep0_t (fun _ _ _ _ _ _ _ _ => trivial) (Below.refl _ _) (fun _ => rfl)
    (fun pre W => Blk W w.heap.size 3 #[.int .i64 0] ∧ Blk W (w.heap.size + 1) 30 #[.int .i64 0] ∧ Below w.heap.size w W ∧ ∀ y ∈ pre, y.2 ≠ 0)
    (fun c pre W => c = Code.ret ∧ ∃ pr x, pre = pr ++ [x] ∧ (∀ y ∈ pr, y.2 ≠ 0) ∧ x.2 = 0 ∧ Blk W w.heap.size 3 #[.int .i64 (x.1 : Nat)] ∧ Blk W (w.heap.size + 1) 30 #[.int .i64 0] ∧ Below w.heap.size w W)
    (OwnFrom.and (blk_own _ _ _ _) (OwnFrom.and (blk_own _ _ _ _) (OwnFrom.and (ownFrom_below (Nat.le_refl _) (by omega)) (fun _ _ _ _ h _ _ => h))))
    (fun _ => OwnFrom.and (fun _ _ _ _ h _ _ => h) (fun s A B row hs hg hr => by
      obtain ⟨pr, x, h1, h2, h3, h4, h5, h6⟩ := hs
      exact ⟨pr, x, h1, h2, h3, blk_own (β := Unit) _ _ _ (fun _ => _) () A B row h4 hg hr, blk_own (β := Unit) _ _ _ (fun _ => _) () A B row h5 hg hr, ownFrom_below (β := Unit) (Nat.le_refl _) (by omega) () A B row h6 hg hr⟩))
    ⟨b0, b1, gb_below g0, by simp⟩
    ?assign ?body ?done ?stop
  case assign =>
    intro l x W K hK
    gi_wp2
    exact hK
  case body =>
    rintro l pre x W ⟨hT0, hT1, hB, hne⟩ hpl
    obtain ⟨xa, xb⟩ := x
    have c0 := hT0.cell 0 rfl
    have d0 := hT1.cell 0 rfl
    have e0 := hT0.free 0
    have e1 := hT1.free 0
    by_cases hx : xb = 0
    · subst hx
      have HN := Lib.hid hne
      clear hne
      gi_wp2
      refine ⟨(KeepsOthers.setCell _ _ _).trans (KeepsOthers.setCell _ _ _), rfl, pre, (xa, 0), rfl, HN.out, rfl, (hT0.set 0 _).keep (gb_set _ _ _ _ _) (ne_some (by omega)), (hT1.keep (gb_set _ _ _ _ _) (ne_some (by omega))).set 0 _, (hB.setCell (p := ⟨w.heap.size, 0, none⟩) (Nat.le_refl _) _).setCell (p := ⟨w.heap.size + 1, 0, none⟩) (by simp) _⟩
    · have hx1 : ((xb : Int) == 0) = false := by simp; omega
      have HN := Lib.hid hne
      clear hne
      gi_wp2
      refine ⟨KeepsOthers.refl _, trivial, hT0, hT1, hB, ?_⟩
      intro z hz
      rcases List.mem_append.1 hz with h | h
      · exact HN.out z h
      · rw [List.mem_singleton.1 h]; exact hx
  case done =>
    rintro D ys W hD hys ⟨hT0, hT1, hB, hne⟩ hK
    subst hys
    have HL := Lib.hid (low_of_all HF.out.1 hne)
    have c0 := hT0.cell 0 rfl
    have d0 := hT1.cell 0 rfl
    have e0 := hT0.free 0
    have e1 := hT1.free 0
    clear hne
    gi_wp2
    have hK2 : ((W.setCell ⟨w.heap.size, 0, none⟩ (.int .i64 0)).setCell ⟨w.heap.size + 1, 0, none⟩ (.int .i64 15)).heap[D]? = some (.deferred (some [])) :=
      (Below.heap_setCell _ ⟨w.heap.size + 1, 0, none⟩ _ D (by show D ≠ w.heap.size + 1; omega)).trans ((Below.heap_setCell W ⟨w.heap.size, 0, none⟩ (.int .i64 0) D (by show D ≠ w.heap.size; omega)).trans hK)
    refine ⟨by simp, .inl ⟨_, _, rfl, run_takeDeferred hK2, ?_⟩⟩
    refine ⟨_, two_rows rfl _ _ w.heap.size (w.heap.size + 1) _ _ rfl rfl (((hT0.set 0 _).keep (gb_set _ _ _ _ _) (ne_some (by omega))).keep (grownBy_putObj' _ D _) (ne_some (by omega))) (((hT1.keep (gb_set _ _ _ _ _) (ne_some (by omega))).set 0 _).keep (grownBy_putObj' _ D _) (ne_some (by omega))), ?_⟩
    exact ⟨by rw [HL.out.1, HL.out.2]; rfl, gb_step (gb_step (gb_step (gb_of_below hB) (gb_set _ _ _ _ _) (Nat.le_refl _)) (gb_set _ _ _ _ _) (by simp)) (grownBy_putObj' _ D _) (by omega)⟩
  case stop =>
    rintro D c pre W hD ⟨k, hk, hpre⟩ ⟨rfl, pr, x, h1, h2, h3, hT0, hT1, hB⟩ hK
    subst h1
    have HL := Lib.hid (low_of_pre HF.out.1 hk hpre h2 h3)
    clear hpre h2 h3
    gi_wp2
    refine ⟨by simp, .inl ⟨_, _, rfl, run_takeDeferred hK, ?_⟩⟩
    refine ⟨_, two_rows rfl _ _ w.heap.size (w.heap.size + 1) _ _ rfl rfl (hT0.keep (grownBy_putObj' _ D _) (ne_some (by omega))) (hT1.keep (grownBy_putObj' _ D _) (ne_some (by omega))), ?_⟩
    exact ⟨by rw [HL.out.1, HL.out.2]; rfl, gb_step (gb_of_below hB) (grownBy_putObj' _ D _) (by omega)⟩
theorem sectors_nil (w : World) : Calls Tryd.prog 26 #[.pointer none] w fun e w' => e = .returned (.slice none 0 0) ∧ w = w' := by
  go_enter Tryd.func26, Tryd.ntmps26
  go_wp2
  go_ret
  exact ⟨rfl, rfl⟩
theorem own_not {w : World} {base size n D : Nat} {e : TypeId} {v : Value} {xs : List Value} {x : Option (List Deferred)} (h : w.ownsRow base e size v n xs) (hK : w.heap[D]? = some (.deferred x)) : v.ownBlock ≠ some D := by
  rcases h.2 with ⟨rfl, _⟩ | ⟨g, cap, cur, rfl, _, hg, _⟩
  · intro h; cases h
  · intro h
    have h2 : some g = some D := h
    rw [Option.some.inj h2, hK] at hg
    cases hg
/-- The sectors among the pages that have come. -/
def secsOf (pre : List (Nat × Nat)) : List Nat := secsF (pre.map (·.2))
theorem secsOf_snoc (pre : List (Nat × Nat)) (a b : Nat) : secsOf (pre ++ [(a, b)]) = if b = 0 then secsOf pre else secsOf pre ++ [b] := by
  unfold secsOf secsF
  rw [List.map_append, List.filter_append]
  by_cases h : b = 0
  · subst h; simp
  · simp [h]
theorem secsOf_length (pre : List (Nat × Nat)) : (secsOf pre).length ≤ pre.length := by
  unfold secsOf secsF
  exact Nat.le_trans (List.length_filter_le _ _) (by simp)
theorem secsOf_all {P : List Nat} (hP : P.length = 960) : secsOf (allF P) = secsF P := by unfold secsOf; rw [allF_secs hP]
/-- What has been collected so far. -/
def Collects (w : World) (pre : List (Nat × Nat)) (W : World) : Prop := ∃ ao cap, Blk W w.heap.size 53 #[.slice ao (secsOf pre).length cap] ∧ W.ownsRow (w.heap.size + 2) 3 1 (.slice ao (secsOf pre).length cap) (secsOf pre).length (intsC (secsOf pre)) ∧ Below w.heap.size w W
theorem collects_own (w : World) {N : Nat} (hN : w.heap.size ≤ N) : OwnFrom N (Collects w) := by
  intro s W W' row h g hr
  obtain ⟨ao, cap, h1, h2, h3⟩ := h
  refine ⟨ao, cap, blk_own N _ _ (fun _ => #[.slice ao (secsOf s).length cap]) s W W' row h1 g hr, h2.kept g ?_, ownFrom_below (Nat.le_refl _) hN s W W' row h3 g hr⟩
  cases hrow : row with
  | none => cases (Value.slice ao (secsOf s).length cap).ownBlock <;> simp
  | some r =>
    right
    intro e
    obtain ⟨_, o, ho, hc⟩ := hr r hrow
    rcases h2.2 with ⟨h5, _⟩ | ⟨g2, cap2, cur, h5, _, hg, _⟩
    · rw [h5] at e; cases e
    · rw [h5] at e
      have e2 : some g2 = some r := e
      rw [Option.some.inj e2, ho] at hg
      cases hg; cases hc
theorem ownsRow_succ {w : World} {base n size : Nat} {e : TypeId} {v : Value} {xs : List Value} (h : w.ownsRow base e size v (n + 1) xs) : ∃ g cap, v = .slice (some ⟨g, 0, none⟩) (n + 1) cap := by
  rcases h.2 with ⟨_, hn⟩ | ⟨g, cap, cur, rfl, _⟩
  · omega
  · exact ⟨g, cap, rfl⟩
set_option maxRecDepth 100000 in
set_option maxHeartbeats 2000000 in
theorem sectors_any (p : Nat) (s : TB) (w : World) (h : PT w p s) : Calls Tryd.prog 26 #[.pointer (some ⟨p, 0, none⟩)] w (NtsGot w (secsF s.P)) := by
  obtain ⟨i0, hi, hz0, hz1, hz2⟩ := info_parts Tryd.infoInt
  have hp := h.lt
  have HF := Lib.hid h.fit
  refine (callsIn_wide (n := 5)).1 ?_
  refine callsIn_of_wp_marks Tryd.func26 rfl trivial ?_ rfl
  simp only [Tryd.ntmps26, List.size_toArray, List.length_cons, List.length_nil, Nat.reduceAdd, Nat.reduceSub, Array.replicate_succ, Array.replicate_zero, List.push_toArray, List.append_toArray, List.nil_append, List.cons_append]
  gi_wp2_with (refine ⟨trivial, ?_⟩; gi_at_call 43; (with_reducible refine (callsIn_wide.2 (all_any _ _)).mono ?_); rintro e w' ⟨rfl, rfl⟩)
  have b0 := (Blk.mk w 53 #[.slice none 0 0]).keep0 (gb_alloc _ (.cells #[.pointer (some ⟨p, 0, none⟩)] 23) none)
  have b1 := Blk.mk (w.alloc (.cells #[.slice none 0 0] 53)) 23 #[.pointer (some ⟨p, 0, none⟩)]
  have g0 : w.grownBy ((w.alloc (.cells #[.slice none 0 0] 53)).alloc (.cells #[.pointer (some ⟨p, 0, none⟩)] 23)) none := gb_trans (gb_alloc _ _ _) (gb_alloc _ _ _)
  have hsz : ((w.alloc (.cells #[.slice none 0 0] 53)).alloc (.cells #[.pointer (some ⟨p, 0, none⟩)] 23)).heap.size = w.heap.size + 2 := by simp
  simp only [World.size_alloc] at b1
  generalize (w.alloc (.cells #[.slice none 0 0] 53)).alloc (.cells #[.pointer (some ⟨p, 0, none⟩)] 23) = W0 at b0 b1 g0 hsz ⊢
  refine wpIn_rangeFunc_ownF (a₁ := ?fr) rfl (by omega) (gf := 54) (lb := #[.pointer (some ⟨w.heap.size + 1, 0, none⟩)]) rfl trivial (enters_of Tryd.func54 (by kernel_rfl) rfl)
    (all_stops _ (by omega) (w.heap.size + 1) p s W0 (by omega) (b1.cell 0 rfl) (h.keep0 g0)) keep0_t (fun _ _ _ _ _ _ _ _ => trivial) (Below.refl _ _) (fun _ => rfl)
    (Collects w)
    (fun _ _ _ => False)
    (collects_own w (by omega))
    (fun _ _ _ _ _ hs _ _ => hs)
    ⟨none, 0, b0, World.ownsRow_nil _ _ _ _, gb_below g0⟩
    ?assign ?body ?done ?stop
  case assign =>
    intro l x W K hK
    gi_wp2
    exact hK
  case body =>
    rintro l pre x W ⟨ao, cap, hB, own, hbel⟩ hpl
    obtain ⟨xa, xb⟩ := x
    have c0 := hB.cell 0 rfl
    have f0 := hB.free 0
    have hlt := hB.lt
    have hlen := secsOf_length pre
    have HS := Lib.hid (secsOf_snoc pre xa xb)
    by_cases hx : xb = 0
    · subst hx
      have HQ : Hid (Collects w (pre ++ [(xa, 0)]) W) := Lib.hid (by
        refine ⟨ao, cap, ?_⟩
        rw [HS.out, if_pos rfl]
        exact ⟨hB, own, hbel⟩)
      clear hB own hbel HS
      generalize (secsOf pre).length = m at *
      gi_wp2
      exact ⟨KeepsOthers.refl _, trivial, HQ.out⟩
    · have hx1 : ((xb : Int) != 0) = true := by simp; omega
      have hx2 : ((xb : Int) == 0) = false := by simp; omega
      have HS2 := Lib.hid (HS.out.trans (if_neg hx))
      clear HS
      generalize secsOf pre = L at *
      gi_wp2_with (gi_at_builtin; refine wpListIn_append_own _ rfl _ _ 53 rfl (w.heap.size + 2) 3 i0 (.int .i64 0) 1 8 Tryd.underlying53 hi hz0 hz1 hz2 rfl (by decide) _ _ _ rfl (own.alloc _) ⟨W.heap.size, 0, none⟩ 1 1 [.int .i64 (xb : Nat)] rfl rfl (cell1_new _ _ _) (one_int _ _) (by unfold maxLen; omega) (by omega) (by have := hbel.size; have := hsz; have := b1.lt; simp; omega) ?_; intro v3 w3 own3 g3 _; obtain ⟨g4, cap4, rfl⟩ := ownsRow_succ own3; have b3 := blk_app hB own (by omega) g3; have c3 := b3.cell 0 rfl; have f3 := b3.free 0; replace g3 : (W.alloc (.cells #[.int .i64 (xb : Nat)] 3)).grownBy w3 (Value.slice ao L.length cap).ownBlock := g3; have G3 := Lib.hid g3; have OW := Lib.hid (And.intro own own3); have B3 := Lib.hid b3; clear g3 own own3 b3)
      refine ⟨?_, trivial, ?_⟩
      · refine (KeepsOthers.alloc W _).trans ((KeepsOthers.of_grownBy G3.out (fun j o e ho => ?_)).trans (KeepsOthers.setCell _ _ _))
        rcases (OW.out.1.alloc (.cells #[.int .i64 (xb : Nat)] 3)).2 with ⟨h5, _⟩ | ⟨g2, cap2, cur, h5, _, hg, _⟩
        · rw [h5] at e; cases e
        · rw [h5] at e
          have e2 : some g2 = some j := e
          rw [Option.some.inj e2, ho] at hg
          cases hg; rfl
      · refine ⟨some ⟨g4, 0, none⟩, cap4, ?_, ?_, gb_below (gb_step (gb_app (gb_of_below hbel) OW.out.1 (by omega) G3.out) (gb_set _ _ _ _ _) (Nat.le_refl _))⟩
        · have := B3.out.set 0 (.slice (some ⟨g4, 0, none⟩) (L.length + 1) cap4)
          rw [HS2.out, List.length_append]
          exact this
        · rw [HS2.out, List.length_append, intsC_snoc]; exact own_set (b := w.heap.size) (k := 0) OW.out.2 (by omega) _
  case done =>
    rintro D ys W hD hys ⟨ao, cap, hB, own, hbel⟩ hK
    subst hys
    rw [secsOf_all HF.out.1] at hB own
    have c0 := hB.cell 0 rfl
    gi_wp2
    refine ⟨by simp, .inl ⟨_, _, rfl, run_takeDeferred hK, ?_⟩⟩
    refine ⟨_, results_tmp rfl _ _ _, _, rfl, ?_, gb_of_below (hbel.trans (belowK_b (w := w) (Nat.le_refl _) W D _ _ (by omega) hK rfl rfl))⟩
    exact owns_mono (own.kept (grownBy_putObj' W D (.deferred none)) (Or.inr (own_not own hK))) (by omega)
  case stop =>
    rintro D c pre W _ _ h _
    exact h.elim
end Go.Proofs.YtfkkdhgggocgjaaDoor

