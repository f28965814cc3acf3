/-
  The map's rows of free things: its iterator's contract, over this seat's translation; condition: the table of math/bits reads as the library lays it.
-/
import Derived.RangeFuncNested
import Derived.RangeFuncBound
import Derived.RangeFuncCalls
import Derived.RangeFuncLeaves
import Derived.RangeFuncBox
import Derived.Shelf.Abstract
import Derived.Shelf.RegionOpen
import Derived.OwnWalkIn
import Derived.TacticsInMore
import Derived.LoopNIn
import Derived.LoopIn
import Derived.Test.YtaihcbkdbdhihaaDoorMn
namespace Go.Proofs.YtaihcbkdbdhihaaDoor
open Go.RowKit Go.Shelf
attribute [local go_sem] Oper.semAt_some

/-- What a round keeps: the closure's box, the map, the table. -/
def Keep3 (B p : Nat) (us : List Bool) (W W' : World) : Prop := (∀ v, W.cell? ⟨B, 0, none⟩ = some v → W'.cell? ⟨B, 0, none⟩ = some v) ∧ (PM W p us → PM W' p us) ∧ (Tab W → Tab W')
theorem keep3_t {B p : Nat} {us : List Bool} {X Y Z : World} (h : Keep3 B p us X Y) (k : Keep3 B p us Y Z) : Keep3 B p us X Z := ⟨fun v hv => k.1 v (h.1 v hv), fun hp => k.2.1 (h.2.1 hp), fun hp => k.2.2 (h.2.2 hp)⟩
theorem keep3_refl (B p : Nat) (us : List Bool) (X : World) : Keep3 B p us X X := ⟨fun _ h => h, fun h => h, fun h => h⟩
/-- What a write into one other block keeps. -/
theorem keep3_of {B p : Nat} {r : Option Nat} {us : List Bool} {W W' : World} (g : W.grownBy W' r) (h1 : some B ≠ r) (h2 : some p ≠ r) (h3 : some 0 ≠ r) : Keep3 B p us W W' :=
  ⟨fun _ hv => g.cell hv h1, fun h => h.keep g h2, fun h => fun k hk => g.cell (h k hk) h3⟩
theorem keep3_b {B p : Nat} {us : List Bool} {w : World} (W : World) (l : Nat) (o o' : Obj) (_ : w.heap.size ≤ l) (h : W.heap[l]? = some o) (ho : o.isCells = false) (_ : o.isWalk = false) : Keep3 B p us W (W.putObj l o') := by
  have hc : ∀ {a : Addr} {v : Value}, W.cell? a = some v → (W.putObj l o').cell? a = some v := fun hv => cell_kept hv (grownBy_putObj' W l o') (fun r e => by cases e; exact ⟨o, h, ho⟩)
  refine ⟨fun v hv => hc hv, fun hp => hp.keep (grownBy_putObj' W l o') ?_, fun ht k hk => hc (ht k hk)⟩
  intro e
  cases e
  unfold PM Blk at hp
  rw [h] at hp; cases hp; cases ho
theorem rows_any (p : Nat) (w : World) : Calls Tryd.prog 39 #[.pointer (some ⟨p, 0, none⟩)] w fun e w' => e = .returned (.func (.func 42) #[] #[.pointer (some ⟨w.heap.size, 0, none⟩)]) ∧ w' = w.alloc (.cells #[.pointer (some ⟨p, 0, none⟩)] 23) := by
  go_enter Tryd.func39, Tryd.ntmps39
  go_wp2
  go_ret
  exact ⟨rfl, rfl⟩
/-- Where a run begins. -/
def AtRun (us : List Bool) (f : Nat) : Prop := f < us.length → us.getD f false = false ∧ (f = 0 ∨ us.getD (f - 1) false = true)
theorem atRun_first (us : List Bool) : AtRun us (nextF us 0 false) ∧ runsTo us (nextF us 0 false) = [] := by
  have h := nextF_spec us 0 false (Nat.zero_le _)
  refine ⟨fun hlt => ⟨h.2.2.2 hlt, ?_⟩, ?_⟩
  · rcases Nat.eq_zero_or_pos (nextF us 0 false) with h0 | h0
    · exact .inl h0
    · right; exact h.2.2.1 _ (Nat.zero_le _) (by omega)
  · have := runsTo_skip (us := us) (a := 0) (nextF us 0 false) (fun i h1 h2 => h.2.2.1 i h1 (by omega))
    rw [Nat.zero_add] at this
    exact this
theorem atRun_next (us : List Bool) (f : Nat) (h : AtRun us f) (hf : f < us.length) :
    f < nextF us f true ∧ nextF us f true ≤ us.length ∧ nextF us (nextF us f true) false ≤ us.length ∧ nextF us f true ≤ nextF us (nextF us f true) false ∧ AtRun us (nextF us (nextF us f true) false) ∧
      runsTo us (nextF us (nextF us f true) false) = runsTo us f ++ [(f, nextF us f true - f)] := by
  have h1 := nextF_spec us f true (by omega)
  obtain ⟨hu, hp⟩ := h hf
  obtain ⟨e, he⟩ : ∃ e, nextF us f true = e := ⟨_, rfl⟩
  rw [he] at h1 ⊢
  have hlt : f < e := by
    rcases Nat.lt_or_ge f e with h2 | h2
    · exact h2
    · have h3 : e = f := by omega
      have := h1.2.2.2 (by omega)
      rw [h3, hu] at this; cases this
  have h2 := nextF_spec us e false h1.2.1
  obtain ⟨g, hg⟩ : ∃ g, nextF us e false = g := ⟨_, rfl⟩
  rw [hg] at h2 ⊢
  refine ⟨hlt, h1.2.1, h2.2.1, h2.1, fun hgl => ⟨h2.2.2.2 hgl, .inr ?_⟩, ?_⟩
  · have hne : e < g := by
      rcases Nat.lt_or_ge e g with h3 | h3
      · exact h3
      · have h4 : g = e := by omega
        have h5 := h2.2.2.2 hgl
        have h6 := h1.2.2.2 (by omega)
        rw [h4, h6] at h5; cases h5
    exact h2.2.2.1 (g - 1) (by omega) (by omega)
  · have r1 := runsTo_run (us := us) hp (e - f - 1) (fun i h3 h4 => h1.2.2.1 i h3 (by omega))
    have r2 := runsTo_skip (us := us) (a := e) (g - e) (fun i h3 h4 => h2.2.2.1 i h3 (by omega))
    rw [show e + (g - e) = g from by omega] at r2
    rw [r2, ← show f + (e - f - 1) + 1 = e from by omega, r1]
    congr 3
    omega
set_option maxRecDepth 100000 in
set_option maxHeartbeats 1000000 in
theorem rows1_in (n : Nat) (hn : 1 ≤ n) (l B p : Nat) (us : List Bool) (hus : us.length ≤ 1024) (J Jx : List (Nat × Nat) → World → Prop)
    (hY : ∀ pre x W, J pre W → pre.length < 1025 → YieldAt Fence.wide (n - 1) Tryd.prog l #[.int .i64 (x.1 : Nat), .int .i64 (x.2 : Nat)] W fun e W' =>
      (e = .returned (.bool true) ∧ J (pre ++ [x]) W' ∧ Keep3 B p us W W') ∨ (e = .returned (.bool false) ∧ Jx (pre ++ [x]) W'))
    (W : World) (hB : W.cell? ⟨B, 0, none⟩ = some (.pointer (some ⟨p, 0, none⟩))) (hP : PM W p us) (hT : Tab W) (h0 : J [] W) :
    CallsIn Fence.wide n Tryd.prog 42 #[.func (.yield l) #[] #[], .pointer (some ⟨B, 0, none⟩)] W fun e W' => (∃ v, e = .returned v) ∧
      ((∃ ys, ys = runsF us ∧ J ys W') ∨ (∃ pre, True ∧ Jx pre W')) := by
  have h1 := atRun_first us
  have HN := Lib.hid (next_zero p us false W hP hT hus)
  have hle := (nextF_spec us 0 false (Nat.zero_le _)).2.1
  obtain ⟨f0, hf0⟩ : ∃ f0, nextF us 0 false = f0 := ⟨_, rfl⟩
  rw [hf0] at h1 HN hle
  have H1 := Lib.hid h1
  have HPT := Lib.hid (And.intro hP (And.intro hT h0))
  clear hf0 h1 hP hT h0
  refine callsIn_of_wp Tryd.func42 rfl trivial ?_ rfl
  simp only [Tryd.ntmps42, List.size_toArray, List.length_cons, List.length_nil, Nat.reduceAdd, Nat.reduceSub, Array.replicate_succ, Array.replicate_zero, List.push_toArray, List.append_toArray, List.nil_append, List.cons_append]
  gi_wp2_with (refine ⟨trivial, ?_⟩; gi_at_call 32; (with_reducible refine (callsIn_wide.2 HN.out).mono ?_); rintro e w' ⟨rfl, rfl⟩)
  gi_loopw [3, 4] (fun v _ wr => ∃ f : Nat, f ≤ us.length ∧ v = .int .i64 f ∧ Hid (AtRun us f) ∧ wr.cell? ⟨B, 0, none⟩ = some (.pointer (some ⟨p, 0, none⟩)) ∧ PM wr p us ∧ Tab wr ∧ J (runsTo us f) wr)
    (fun v _ _ => us.length + 1 - (intOf v).toNat)
  case atStart => exact ⟨f0, hle, rfl, Lib.hid H1.out.1, hB, HPT.out.1, HPT.out.2.1, by rw [H1.out.2]; exact HPT.out.2.2⟩
  case round =>
    obtain ⟨f, hfl, rfl, hat, hcell, hP, hT, hJs⟩ := hrel
    have hc := hP.things
    clear HN H1 HPT hB hle
    by_cases hlt : f < us.length
    · obtain ⟨h1, h2, h3, h4, h5, h6⟩ := atRun_next us f hat.out hlt
      have hlen := runsTo_len (us := us) f
      have HN1 := Lib.hid (next_any p us f true wr hP hT hfl hus)
      have HN2 := Lib.hid (fun W hP hT => next_any p us (nextF us f true) false W hP hT h2 hus)
      obtain ⟨e, he⟩ : ∃ e, nextF us f true = e := ⟨_, rfl⟩
      rw [he] at h1 h2 h3 h4 h5 h6 HN1 HN2
      obtain ⟨g, hg⟩ : ∃ g, nextF us e false = g := ⟨_, rfl⟩
      rw [hg] at h3 h4 h5 h6 HN2
      obtain ⟨d, hd⟩ : ∃ d, e - f = d := ⟨_, rfl⟩
      rw [hd] at h6
      have hdi : (e : Int) - (f : Int) = (d : Int) := by omega
      have hdw : IntKind.i64.wrap (d : Int) = (d : Int) := IntWalk.i64_in _ (by omega)
      have H5 := Lib.hid h5
      have H6 := Lib.hid h6
      have HPT := Lib.hid (And.intro hP hT)
      clear he hg hd h5 h6 hP hT
      obtain ⟨fn, tmps, assign, body, hy, hR⟩ := hY (runsTo us f) (f, d) wr hJs (by omega)
      dsimp only at hy hR
      gi_wp2_with (refine ⟨trivial, ?_⟩; gi_at_call 32; (with_reducible refine (callsIn_wide.2 HN1.out).mono ?_); rintro e w' ⟨rfl, rfl⟩)
      refine hR.mono ?_
      rintro e' W3 (⟨rfl, hJ3, hk3⟩ | ⟨rfl, hJx3⟩)
      · have hcell3 := hk3.1 _ hcell
        have hP3 := hk3.2.1 HPT.out.1
        have hT3 := hk3.2.2 HPT.out.2
        have HN3 := Lib.hid (HN2.out W3 hP3 hT3)
        have H3 := Lib.hid (And.intro hP3 (And.intro hT3 hJ3))
        clear hk3 hP3 hT3 hJ3 HN2 hcell hc hy hR HPT hJs
        gi_wp2_with (refine ⟨trivial, ?_⟩; gi_at_call 32; (with_reducible refine (callsIn_wide.2 HN3.out).mono ?_); rintro e w' ⟨rfl, rfl⟩)
        go_roundw
        case rel => exact ⟨g, h3, rfl, H5, hcell3, H3.out.1, H3.out.2.1, by rw [H6.out]; exact H3.out.2.2⟩
        case measure => simp [intOf]; omega
      · gi_wp2
        refine bodyPost_ret (results_none rfl _ _ _) rfl ?_
        exact ⟨⟨_, rfl⟩, .inr ⟨_, trivial, hJx3⟩⟩
    · obtain rfl : f = us.length := by omega
      gi_wp2
      go_end0
      exact ⟨⟨_, rfl⟩, .inl ⟨_, rfl, hJs⟩⟩

/-- What the closure hands over: all runs in their order. -/
theorem rows_stops (n : Nat) (hn : 1 ≤ n) (B p : Nat) (us : List Bool) (hus : us.length ≤ 1024) (w : World) (hBn : B < w.heap.size)
    (hc : w.cell? ⟨B, 0, none⟩ = some (.pointer (some ⟨p, 0, none⟩))) (hP : PM w p us) (hT : Tab w) :
    SeqStopsK Fence.wide n Tryd.prog 42 #[.pointer (some ⟨B, 0, none⟩)] (fun x : Nat × Nat => #[Value.int .i64 (x.1 : Nat), .int .i64 (x.2 : Nat)]) (Keep3 B p us) (fun ys => ys = runsF us) (fun _ => True) 1025 w := fun l J Jx W hW _ _ hY h0 =>
  rows1_in n hn l B p us hus J Jx hY W ((hW.cell (p := ⟨B, 0, none⟩) hBn).trans hc) (hP.keep0 (gb_of_below hW)) (hT.keep0 (gb_of_below hW)) h0
theorem Tryd.infoPair : (Tryd.prog.info? 53).map (fun i => (i.zero, i.size, i.bytes)) = some (some (.agg #[.int .i64 0, .int .i64 0]), 2, 16) := by kernel_rfl
/-- Pairs of numbers, as cells. -/
def pairsC (l : List (Nat × Nat)) : List Value := l.flatMap fun p => [.int .i64 (p.1 : Nat), .int .i64 (p.2 : Nat)]
theorem pairsC_snoc (l : List (Nat × Nat)) (a b : Nat) : pairsC (l ++ [(a, b)]) = pairsC l ++ [.int .i64 (a : Nat), .int .i64 (b : Nat)] := by simp [pairsC]
theorem pairsC_length : ∀ l : List (Nat × Nat), (pairsC l).length = l.length * 2
  | [] => rfl
  | p :: l => by
    have := pairsC_length l
    unfold pairsC at this ⊢
    rw [List.flatMap_cons, List.length_append, this]
    simp only [List.length_cons, List.length_nil]
    omega
/-- A slice of pairs. -/
def Prs (w : World) (v : Value) (l : List (Nat × Nat)) : Prop := Sl 2 w v l.length (pairsC l)
def RunsGot (w : World) (l : List (Nat × Nat)) (e : Ending) (w' : World) : Prop := ∃ v, e = .returned v ∧ Prs w' v l ∧ w.grownBy w' none
theorem cells2_new (w : World) (x y : Value) (t : TypeId) : ∀ j u, [x, y][j]? = some u → (w.alloc (.cells #[x, y] t)).cell? ((⟨w.heap.size, 0, none⟩ : Addr).add j) = some u := by
  intro j u hj
  rw [add_at, Nat.zero_add]
  exact (Blk.mk w t #[x, y]).cell j (by rw [List.getElem?_toArray]; exact hj)
theorem one_pair (k m : Int) : ∀ u ∈ [Value.int .i64 k, .int .i64 m], u.oneCell' = true := by
  intro u hu; simp at hu; rcases hu with rfl | rfl <;> rfl
theorem blk_own {β : Type} (N B : Nat) (t : TypeId) (f : β → Array Value) : OwnFrom N (fun s W => Blk W B t (f s)) := by
  intro s W W' row h g hr
  refine Blk.keep h g ?_
  intro e
  obtain ⟨_, o, ho, hc⟩ := hr B e.symm
  unfold Blk at h
  rw [h] at ho; cases ho; cases hc
theorem own_not {w : World} {base size n D : Nat} {e : TypeId} {v : Value} {xs : List Value} {x : Option (List Deferred)} (h : w.ownsRow base e size v n xs) (hK : w.heap[D]? = some (.deferred x)) : v.ownBlock ≠ some D := by
  rcases h.2 with ⟨rfl, _⟩ | ⟨g, cap, cur, rfl, _, hg, _⟩
  · intro h; cases h
  · intro h
    have h2 : some g = some D := h
    rw [Option.some.inj h2, hK] at hg
    cases hg
/-- What has been collected so far. -/
def Collects (w : World) (pre : List (Nat × Nat)) (W : World) : Prop := ∃ ao cap, Blk W w.heap.size 49 #[.slice ao pre.length cap] ∧ W.ownsRow (w.heap.size + 2) 53 2 (.slice ao pre.length cap) pre.length (pairsC pre) ∧ Below w.heap.size w W
theorem collects_own (w : World) {N : Nat} (hN : w.heap.size ≤ N) : OwnFrom N (Collects w) := by
  intro s W W' row h g hr
  obtain ⟨ao, cap, h1, h2, h3⟩ := h
  refine ⟨ao, cap, blk_own N _ _ (fun _ => #[.slice ao s.length cap]) s W W' row h1 g hr, h2.kept g ?_, ownFrom_below (Nat.le_refl _) hN s W W' row h3 g hr⟩
  cases hrow : row with
  | none => cases (Value.slice ao s.length cap).ownBlock <;> simp
  | some r =>
    right
    intro e
    obtain ⟨_, o, ho, hc⟩ := hr r hrow
    rcases h2.2 with ⟨h5, _⟩ | ⟨g2, cap2, cur, h5, _, hg, _⟩
    · rw [h5] at e; cases e
    · rw [h5] at e
      have e2 : some g2 = some r := e
      rw [Option.some.inj e2, ho] at hg
      cases hg; cases hc
set_option maxRecDepth 100000 in
set_option maxHeartbeats 2000000 in
theorem runs_any (p : Nat) (us : List Bool) (w : World) (h : PM w p us) (hT : Tab w) (hus : us.length ≤ 1024) :
    Calls Tryd.prog 25 #[.pointer (some ⟨p, 0, none⟩)] w (RunsGot w (runsF us)) := by
  obtain ⟨i0, hi, hz0, hz1, hz2⟩ := info_parts Tryd.infoPair
  have hp := h.lt
  have hp0 := tab_far hT h
  refine (callsIn_wide (n := 5)).1 ?_
  refine callsIn_of_wp_marks Tryd.func25 rfl trivial ?_ rfl
  simp only [Tryd.ntmps25, List.size_toArray, List.length_cons, List.length_nil, Nat.reduceAdd, Nat.reduceSub, Array.replicate_succ, Array.replicate_zero, List.push_toArray, List.append_toArray, List.nil_append, List.cons_append]
  gi_wp2_with (refine ⟨trivial, ?_⟩; gi_at_call 39; (with_reducible refine (callsIn_wide.2 (rows_any p _)).mono ?_); rintro e w' ⟨rfl, rfl⟩)
  have b0 := (Blk.mk w 49 #[.slice none 0 0]).keep0 (gb_alloc _ (.cells #[.pointer (some ⟨p, 0, none⟩)] 23) none)
  have b1 := Blk.mk (w.alloc (.cells #[.slice none 0 0] 49)) 23 #[.pointer (some ⟨p, 0, none⟩)]
  have g0 : w.grownBy ((w.alloc (.cells #[.slice none 0 0] 49)).alloc (.cells #[.pointer (some ⟨p, 0, none⟩)] 23)) none := gb_trans (gb_alloc _ _ _) (gb_alloc _ _ _)
  have hsz : ((w.alloc (.cells #[.slice none 0 0] 49)).alloc (.cells #[.pointer (some ⟨p, 0, none⟩)] 23)).heap.size = w.heap.size + 2 := by simp
  simp only [World.size_alloc] at b1
  generalize (w.alloc (.cells #[.slice none 0 0] 49)).alloc (.cells #[.pointer (some ⟨p, 0, none⟩)] 23) = W0 at b0 b1 g0 hsz ⊢
  refine wpIn_rangeFunc_ownF (a₁ := ?fr) rfl (by omega) (gf := 42) (lb := #[.pointer (some ⟨w.heap.size + 1, 0, none⟩)]) rfl trivial (enters_of Tryd.func42 (by kernel_rfl) rfl)
    (rows_stops _ (by omega) (w.heap.size + 1) p us hus W0 (by omega) (b1.cell 0 rfl) (h.keep0 g0) (hT.keep0 g0)) keep3_t keep3_b (Below.refl _ _) (fun _ => rfl)
    (Collects w)
    (fun _ _ _ => False)
    (collects_own w (by omega))
    (fun _ _ _ _ _ hs _ _ => hs)
    ⟨none, 0, b0, World.ownsRow_nil _ _ _ _, gb_below g0⟩
    ?assign ?body ?done ?stop
  case assign =>
    intro l x W K hK
    gi_wp2
    exact hK
  case body =>
    rintro l pre x W ⟨ao, cap, hB, own, hbel⟩ hpl
    obtain ⟨xa, xb⟩ := x
    have c0 := hB.cell 0 rfl
    have f0 := hB.free 0
    have hlt := hB.lt
    gi_wp2_with (gi_at_builtin; refine wpListIn_append_own _ rfl _ _ 49 rfl (w.heap.size + 2) 53 i0 (.agg #[.int .i64 0, .int .i64 0]) 2 16 Tryd.underlying49 hi hz0 hz1 hz2 rfl (by decide) _ _ _ rfl (own.alloc _) ⟨W.heap.size, 0, none⟩ 1 1 [.int .i64 (xa : Nat), .int .i64 (xb : Nat)] rfl rfl (cells2_new _ _ _ _) (one_pair _ _) (by unfold maxLen; omega) (by omega) (by have := hbel.size; have := hsz; have := b1.lt; simp; omega) ?_; intro v3 w3 own3 g3 _; obtain ⟨g4, cap4, rfl⟩ := ownsRow_succ own3; have b3 := blk_app hB own (by omega) g3; have c3 := b3.cell 0 rfl; have f3 := b3.free 0; replace g3 : (W.alloc (.cells #[.int .i64 (xa : Nat), .int .i64 (xb : Nat)] 53)).grownBy w3 (Value.slice ao pre.length cap).ownBlock := g3; have G3 := Lib.hid g3; have OW := Lib.hid (And.intro own own3); have B3 := Lib.hid b3; clear g3 own own3 b3)
    have hfar : ∀ j, j < w.heap.size + 2 → some j ≠ (Value.slice ao pre.length cap).ownBlock := fun j hj => own_far OW.out.1 hj
    refine ⟨?_, ?_, ?_⟩
    · refine (KeepsOthers.alloc W _).trans ((KeepsOthers.of_grownBy G3.out (fun j o e ho => ?_)).trans (KeepsOthers.setCell _ _ _))
      rcases (OW.out.1.alloc (.cells #[.int .i64 (xa : Nat), .int .i64 (xb : Nat)] 53)).2 with ⟨h5, _⟩ | ⟨g2, cap2, cur, h5, _, hg, _⟩
      · rw [h5] at e; cases e
      · rw [h5] at e
        have e2 : some g2 = some j := e
        rw [Option.some.inj e2, ho] at hg
        cases hg; rfl
    · exact keep3_t (keep3_of (gb_alloc W _ none) (by simp) (by simp) (by simp)) (keep3_t (keep3_of G3.out (hfar _ (by omega)) (hfar _ (by omega)) (hfar _ (by omega))) (keep3_of (gb_set _ _ _ _ _) (ne_some (by omega)) (ne_some (by omega)) (ne_some (by omega))))
    · refine ⟨some ⟨g4, 0, none⟩, cap4, ?_, ?_, gb_below (gb_step (gb_app (gb_of_below hbel) OW.out.1 (by omega) G3.out) (gb_set _ _ _ _ _) (Nat.le_refl _))⟩
      · have := B3.out.set 0 (.slice (some ⟨g4, 0, none⟩) (pre.length + 1) cap4)
        rw [List.length_append]
        exact this
      · rw [List.length_append, pairsC_snoc]; exact own_set (b := w.heap.size) (k := 0) OW.out.2 (by omega) _
  case done =>
    rintro D ys W hD hys ⟨ao, cap, hB, own, hbel⟩ hK
    subst hys
    have c0 := hB.cell 0 rfl
    gi_wp2
    refine ⟨by simp, .inl ⟨_, _, rfl, run_takeDeferred hK, ?_⟩⟩
    refine ⟨_, results_tmp rfl _ _ _, _, rfl, ?_, gb_of_below (hbel.trans (belowK_b (w := w) (Nat.le_refl _) W D _ _ (by omega) hK rfl rfl))⟩
    exact Sl.of_owns (own.kept (grownBy_putObj' W D (.deferred none)) (Or.inr (own_not own hK)))
  case stop =>
    rintro D c pre W _ _ h _
    exact h.elim
theorem runs_nil (w : World) : Calls Tryd.prog 25 #[.pointer none] w fun e w' => e = .returned (.slice none 0 0) ∧ w = w' := by
  go_enter Tryd.func25, Tryd.ntmps25
  go_wp2
  go_ret
  exact ⟨rfl, rfl⟩
end Go.Proofs.YtaihcbkdbdhihaaDoor
