/-
  Texts of one layer, one behind the other, each with its own sentence; conditions: those that each law states.
-/
import Derived.RangeFuncNested
import Derived.RangeFuncBound
import Derived.RangeFuncCalls
import Derived.RangeFuncLeaves
import Derived.RangeFuncBox
import Derived.Shelf.Abstract
import Derived.Shelf.RegionOpen
import Derived.OwnWalkIn
import Derived.TacticsInMore
import Derived.LoopNIn
import Derived.LoopIn
import Derived.Laws.Rows
import Derived.Test.YtjbfooaembpdfaaGreatDoorZD2
import Derived.Test.YtjbfooaembpdfaaGreatDoorZROOT2
set_option linter.unusedSimpArgs false
set_option linter.unusedVariables false

/-
  The iterator through the writes that came (fate.arrived): its contract, over this seat's translation; conditions: the list's cells lie below the caller's own blocks.
-/
namespace Go.Proofs.YtjbfooaembpdfaaGreatDoor.D5
open Go.RowKit Go.Shelf
attribute [local go_sem] Oper.semAt_some

/-- A write that came, by its number, and how many came ahead of it. -/
abbrev Came (l : List Bool) := { x : Nat × Nat // x.2 < l.length ∧ l.getD x.2 false = true ∧ x.1 = (cameTo l x.2).length }
/-- A round keeps all cells below a bound. -/
def Kept (N : Nat) (W W' : World) : Prop := ∀ (p : Addr) v, p.block < N → W.cell? p = some v → W'.cell? p = some v
theorem kept_t {N : Nat} {X Y Z : World} (h : Kept N X Y) (k : Kept N Y Z) : Kept N X Z := fun p v hp hv => k p v hp (h p v hp hv)
theorem kept_refl (N : Nat) (X : World) : Kept N X X := fun _ _ _ h => h
theorem kept_b {N : Nat} {w : World} (W : World) (l : Nat) (o o' : Obj) (_ : w.heap.size ≤ l) (h : W.heap[l]? = some o) (ho : o.isCells = false) (_ : o.isWalk = false) : Kept N W (W.putObj l o') :=
  fun _ _ _ hv => cell_kept hv (grownBy_putObj' W l o') (fun r e => by cases e; exact ⟨o, h, ho⟩)
theorem kept_below {N : Nat} {W W' : World} (h : Below N W W') : Kept N W W' := fun p v hp hv => by
  rw [h.cell hp]; exact hv
theorem add_block (a : Addr) (k : Nat) : (a.add k).block = a.block := by
  unfold Addr.add; split <;> rfl
theorem arrived_any (ao : Option Addr) (n cap : Nat) (w : World) :
    Calls Tryz.prog 77 #[.slice ao n cap] w fun e w' => e = .returned (.func (.func 115) #[] #[.pointer (some ⟨w.heap.size, 0, none⟩)]) ∧ w' = w.alloc (.cells #[.slice ao n cap] 95) := by
  go_enter Tryz.func77, Tryz.ntmps77
  go_wp2
  go_ret
  exact ⟨rfl, rfl⟩
set_option maxRecDepth 100000 in
set_option maxHeartbeats 1000000 in
theorem arrived1_in (F : Fence) (n : Nat) (h6 : F.fn 115) (hro : F.round = none) (hn : 1 ≤ n) (l Bn Nb : Nat) (ao : Option Addr) (cap : Nat) (b : List Bool) (hb : b.length ≤ 1000000) (J Jx : List (Came b) → World → Prop)
    (hY : ∀ pre x W, J pre W → pre.length < b.length + 1 → YieldAt F (n - 1) Tryz.prog l #[.int .i64 (x.1.1 : Nat), .int .i64 (x.1.2 : Nat)] W fun e W' =>
      (e = .returned (.bool true) ∧ J (pre ++ [x]) W' ∧ Kept Nb W W') ∨ (e = .returned (.bool false) ∧ Jx (pre ++ [x]) W'))
    (W : World) (hBn : W.cell? ⟨Bn, 0, none⟩ = some (.slice ao b.length cap)) (hnil : ao = none → b.length = 0) (hlow : ∀ a, ao = some a → 0 < b.length → a.block < Nb)
    (hcells : ∀ a, ao = some a → ∀ j u, (bools b)[j]? = some u → W.cell? (a.add j) = some u) (h0 : J [] W) :
    CallsIn F n Tryz.prog 115 #[.func (.yield l) #[] #[], .pointer (some ⟨Bn, 0, none⟩)] W fun e W' => (∃ v, e = .returned v) ∧
      ((∃ ys, ys.map (fun x => x.1.2) = cameTo b b.length ∧ J ys W') ∨ (∃ pre, (∃ k, k ≤ b.length ∧ pre.map (fun x => x.1.2) = cameTo b k) ∧ Jx pre W')) := by
  have HN := Lib.hid hnil
  have HL := Lib.hid hlow
  have HC := Lib.hid hcells
  clear hnil hlow hcells
  refine callsIn_of_wp Tryz.func115 rfl h6 ?_ hro
  simp only [Tryz.ntmps115, List.size_toArray, List.length_cons, List.length_nil, Nat.reduceAdd, Nat.reduceSub, Array.replicate_succ, Array.replicate_zero, List.push_toArray, List.append_toArray, List.nil_append, List.cons_append]
  gi_wp2
  gi_loopw [3, 8] (fun v3 v8 wr => ∃ (k : Nat) (pre : List (Came b)), v8 = .int .i64 (k : Nat) ∧ v3 = .int .i64 (pre.length : Nat) ∧ k ≤ b.length ∧ pre.map (fun x => x.1.2) = cameTo b k ∧ Kept Nb W wr ∧ J pre wr)
    (fun _ i _ => b.length - (intOf i).toNat)
  case atStart =>
    exact ⟨0, [], rfl, rfl, by omega, rfl, kept_refl _ _, h0⟩
  case round =>
    obtain ⟨k, pre, rfl, rfl, hk, hc0, hkept, hJs⟩ := hrel
    have hpl : pre.length = (cameTo b k).length := by rw [← hc0, List.length_map]
    have hpk : pre.length ≤ k := by rw [hpl]; exact cameTo_le b k
    have hc := Lib.hid hc0
    have hl := Lib.hid hpl
    clear hc0 hpl
    by_cases hlt : k < b.length
    · cases ao with
      | none => have := HN.out rfl; omega
      | some a =>
        have hd := hkept _ _ (by rw [add_block]; exact HL.out a rfl (by omega)) (HC.out a rfl k _ (bools_at hlt))
        have hgd : b.getD k false = b[k] := by simp [List.getD, hlt]
        cases hbk : b[k] with
        | false =>
          rw [hbk] at hd hgd
          have E := Lib.hid (cameTo_no hgd)
          clear hbk hgd
          gi_wp2
          go_roundw
          case rel => exact ⟨k + 1, pre, by go_num, rfl, by omega, by rw [hc.out, E.out], hkept, hJs⟩
          case measure => simp [intOf]; omega
        | true =>
          rw [hbk] at hd hgd
          have E := Lib.hid (cameTo_yes hgd)
          obtain ⟨x, hx1, hx2⟩ : ∃ x : Came b, x.1.1 = pre.length ∧ x.1.2 = k := ⟨⟨(pre.length, k), hlt, hgd, hl.out⟩, rfl, rfl⟩
          have hy0 := hY pre x wr hJs (by omega)
          rw [hx1, hx2] at hy0
          obtain ⟨fn, tmps, assign, body, hy, hR⟩ := hy0
          have hX := Lib.hid hx2
          clear hbk hgd hx1 hx2
          gi_wp2
          refine hR.mono ?_
          rintro e W3 (⟨rfl, hJ3, hk3⟩ | ⟨rfl, hJx3⟩)
          · gi_wp2
            go_roundw
            case rel => exact ⟨k + 1, _, by go_num, by simp only [List.length_append, List.length_cons, List.length_nil]; go_num, by omega, by rw [List.map_append, hc.out, E.out, List.map_cons, hX.out]; rfl, kept_t hkept hk3, hJ3⟩
            case measure => simp [intOf]; omega
          · gi_wp2
            refine bodyPost_ret (results_none rfl _ _ _) rfl ?_
            exact ⟨⟨_, rfl⟩, .inr ⟨_, ⟨k + 1, by omega, by rw [List.map_append, hc.out, E.out, List.map_cons, hX.out]; rfl⟩, hJx3⟩⟩
    · gi_wp2
      go_end0
      obtain rfl : k = b.length := by omega
      exact ⟨⟨_, rfl⟩, .inl ⟨pre, hc.out, hJs⟩⟩
/-- What the closure hands over: all that came, in their order; or a beginning of them. -/
theorem arrived_stops (F : Fence) (n : Nat) (h6 : F.fn 115) (hro : F.round = none) (hn : 1 ≤ n) (Bn Nb : Nat) (ao : Option Addr) (cap : Nat) (b : List Bool) (hb : b.length ≤ 1000000) (w : World) (hBn : Bn < w.heap.size) (hNb : Nb ≤ w.heap.size)
    (hc : w.cell? ⟨Bn, 0, none⟩ = some (.slice ao b.length cap)) (hnil : ao = none → b.length = 0) (hlow : ∀ a, ao = some a → 0 < b.length → a.block < Nb)
    (hcells : ∀ a, ao = some a → ∀ j u, (bools b)[j]? = some u → w.cell? (a.add j) = some u) :
    SeqStopsK F n Tryz.prog 115 #[.pointer (some ⟨Bn, 0, none⟩)] (fun x : Came b => #[Value.int .i64 (x.1.1 : Nat), Value.int .i64 (x.1.2 : Nat)]) (Kept Nb) (fun ys => ys.map (fun x => x.1.2) = cameTo b b.length) (fun pre => ∃ k, k ≤ b.length ∧ pre.map (fun x => x.1.2) = cameTo b k) (b.length + 1) w := fun l J Jx W hW _ _ hY h0 =>
  arrived1_in F n h6 hro hn l Bn Nb ao cap b hb J Jx hY W ((hW.cell (p := ⟨Bn, 0, none⟩) hBn).trans hc) hnil hlow (fun a e j u hj => (hW.cell (p := a.add j) (by rw [add_block]; have := hlow a e (by have := (List.getElem?_eq_some_iff.1 hj).1; simp [bools] at this; omega); omega)).trans (hcells a e j u hj)) h0
end Go.Proofs.YtjbfooaembpdfaaGreatDoor.D5

/-
  How many writes came (fate.count), over this seat's translation; conditions: the slice reads as a list of bools.
-/
namespace Go.Proofs.YtjbfooaembpdfaaGreatDoor.D5
open Go.RowKit Go.Shelf
attribute [local go_sem] Oper.semAt_some

theorem blk_own {β : Type} (N B : Nat) (t : TypeId) (f : β → Array Value) : OwnFrom N (fun s W => Blk W B t (f s)) := by
  intro s W W' row h g hr
  refine Blk.keep h g ?_
  intro e
  obtain ⟨_, o, ho, hc⟩ := hr B e.symm
  unfold Blk at h
  rw [h] at ho; cases ho; cases hc
theorem came_len (b : List Bool) (ys : List (Came b)) (h : ys.map (fun x => x.1.2) = cameTo b b.length) : ys.length = (cameTo b b.length).length := by rw [← h, List.length_map]
theorem came_le (b : List Bool) (pre : List (Came b)) (k : Nat) (hk : k ≤ b.length) (h : pre.map (fun x => x.1.2) = cameTo b k) : pre.length ≤ b.length := by
  have := cameTo_le b k
  rw [← h, List.length_map] at this; omega
/-- What a slice of bools gives an iterator over it. -/
theorem bls_parts {w : World} {v : Value} {b : List Bool} (h : Bls w v b) : ∃ (ao : Option Addr) (cap : Nat), v = .slice ao b.length cap ∧ (ao = none → b.length = 0) ∧ (∀ a, ao = some a → ∀ j u, (bools b)[j]? = some u → w.cell? (a.add j) = some u) := by
  obtain ⟨ao, cap, h1, _, _, h4, h5⟩ := h
  exact ⟨ao, cap, h1, fun e => (h4 e).1, h5⟩
theorem _root_.Go.Proofs.YtjbfooaembpdfaaGreatDoor.Bls.keep0 {w w' : World} {v : Value} {b : List Bool} (h : Bls w v b) (g : w.grownBy w' none) : Bls w' v b := Sl.keep0 h g
theorem _root_.Go.Proofs.YtjbfooaembpdfaaGreatDoor.Bts.keep0 {w w' : World} {v : Value} {b : List UInt8} (h : Bts w v b) (g : w.grownBy w' none) : Bts w' v b := Sl.keep0 h g
theorem add_zero (a : Addr) : a.add 0 = a := by unfold Addr.add; exact if_pos rfl
/-- A function whose named result is a fate in a block. -/
theorem fate_row {fn : Func} {p : Tmp} (h : fn.results = #[.cell p 97]) (tmps : Array Value) (w : World) (B : Nat) (x y z : Value)
    (hp : tmps.getD p undef = .pointer (some ⟨B, 0, none⟩)) (hb : Blk w B 97 #[x, y, z]) : (results fn tmps).run Tryz.prog w = .ok (.agg #[x, y, z]) w :=
  results_cell_row h tmps w B _ _ (0, 0) _ hp hb Tryz.underlying97 rfl (by show _ = some 3; kernel_rfl)
/-- Three stores fill such a block. -/
theorem blk_fill {w : World} {B : Nat} {x y z : Value} (hb : Blk w B 97 #[x, y, z]) (x' y' z' : Value) : Blk (((w.setCell ⟨B, 0, none⟩ x').setCell ⟨B, 1, none⟩ y').setCell ⟨B, 2, none⟩ z') B 97 #[x', y', z'] :=
  ((hb.set 0 x').set 1 y').set 2 z'
theorem gb_fill {w w1 : World} {B : Nat} (h : w.grownBy w1 none) (hB : w.heap.size ≤ B) (x' y' z' : Value) : w.grownBy (((w1.setCell ⟨B, 0, none⟩ x').setCell ⟨B, 1, none⟩ y').setCell ⟨B, 2, none⟩ z') none :=
  gb_step (gb_step (gb_step h (gb_set _ _ _ _ _) hB) (gb_set _ _ _ _ _) hB) (gb_set _ _ _ _ _) hB
theorem cell_lt {w : World} {p : Addr} {v : Value} (h : w.cell? p = some v) : p.block < w.heap.size := by
  rcases Nat.lt_or_ge p.block w.heap.size with h1 | h1
  · exact h1
  · simp [World.cell?, Array.getElem?_eq_none h1] at h
theorem low_of {w : World} {ao : Option Addr} {b : List Bool} (h : ∀ a, ao = some a → ∀ j u, (bools b)[j]? = some u → w.cell? (a.add j) = some u) (a : Addr) (e : ao = some a) (hp : 0 < b.length) : a.block < w.heap.size := by
  have := cell_lt (h a e 0 _ (bools_at hp))
  rwa [add_block] at this
set_option maxRecDepth 100000 in
set_option maxHeartbeats 1000000 in
theorem count_any (v : Value) (b : List Bool) (w : World) (hv : Bls w v b) (hb : b.length ≤ 1000000) :
    Calls Tryz.prog 114 #[v] w fun e w' => e = .returned (.int .i64 ((cameTo b b.length).length : Nat)) ∧ w.grownBy w' none := by
  obtain ⟨ao, cap, rfl, hnil, hcells⟩ := bls_parts hv
  have HN := Lib.hid hnil
  have HC := Lib.hid hcells
  clear hnil hcells hv
  refine (callsIn_wide (n := 5)).1 ?_
  refine callsIn_of_wp_marks Tryz.func114 rfl trivial ?_ rfl
  simp only [Tryz.ntmps114, List.size_toArray, List.length_cons, List.length_nil, Nat.reduceAdd, Nat.reduceSub, Array.replicate_succ, Array.replicate_zero, List.push_toArray, List.append_toArray, List.nil_append, List.cons_append]
  gi_wp2_with (refine ⟨trivial, ?_⟩; gi_at_call 77; (with_reducible refine (callsIn_wide.2 (arrived_any _ _ _ _)).mono ?_); rintro e w' ⟨rfl, rfl⟩)
  have b0 := (Blk.mk w 3 #[.int .i64 0]).keep0 (gb_alloc _ (.cells #[.slice ao b.length cap] 95) none)
  have b1 := Blk.mk (w.alloc (.cells #[.int .i64 0] 3)) 95 #[.slice ao b.length cap]
  have g0 : w.grownBy ((w.alloc (.cells #[.int .i64 0] 3)).alloc (.cells #[.slice ao b.length cap] 95)) none := gb_trans (gb_alloc _ _ _) (gb_alloc _ _ _)
  have hsz : ((w.alloc (.cells #[.int .i64 0] 3)).alloc (.cells #[.slice ao b.length cap] 95)).heap.size = w.heap.size + 2 := by simp
  simp only [World.size_alloc] at b1
  generalize (w.alloc (.cells #[.int .i64 0] 3)).alloc (.cells #[.slice ao b.length cap] 95) = W0 at b0 b1 g0 hsz ⊢
  refine wpIn_rangeFunc_ownF rfl (by omega) (gf := 115) (lb := #[.pointer (some ⟨w.heap.size + 1, 0, none⟩)]) rfl trivial (enters_of Tryz.func115 (by kernel_rfl) rfl)
    (arrived_stops Fence.wide _ trivial rfl (by omega) (w.heap.size + 1) w.heap.size ao cap b hb W0 (by omega) (by omega) (b1.cell 0 rfl) HN.out (fun a e hp => low_of HC.out a e hp) (fun a e j u hj => g0.cell (HC.out a e j u hj) (by simp))) kept_t kept_b (Below.refl _ _) (fun _ => rfl)
    (fun pre W => Blk W w.heap.size 3 #[.int .i64 (pre.length : Nat)] ∧ Below w.heap.size w W)
    (fun _ _ _ => False)
    (OwnFrom.and (blk_own _ _ _ _) (ownFrom_below (Nat.le_refl _) (by omega)))
    (fun _ _ _ _ _ hs _ _ => hs)
    ⟨b0, gb_below g0⟩
    (fun x => { tmps := #[.slice ao b.length cap, undef, .int .i64 0, .pointer (some ⟨w.heap.size, 0, none⟩), .slice ao b.length cap, .func (.func 115) #[] #[.pointer (some ⟨w.heap.size + 1, 0, none⟩)], .int .i64 (x.1.1 : Nat), .int .i64 (x.1.2 : Nat), undef, undef, undef], defers := [] }) ?assign ?body ?done ?stop
  case assign =>
    intro l x W K hK
    gi_wp2
    simpa using hK
  case body =>
    rintro l pre x W ⟨hT, hB⟩ hpl
    have c0 := hT.cell 0 rfl
    have f0 := hT.free 0
    gi_wp2
    refine ⟨KeepsOthers.setCell _ _ _, ?_, ?_, ?_⟩
    · exact kept_below ((Below.refl _ W).setCell (p := ⟨w.heap.size, 0, none⟩) (Nat.le_refl _) _)
    · have := hT.set 0 (.int .i64 ((pre ++ [x]).length : Nat))
      simpa using this
    · exact hB.setCell (p := ⟨w.heap.size, 0, none⟩) (Nat.le_refl _) _
  case done =>
    rintro D ys W hD hys ⟨hT, hB⟩ hK
    have c0 := hT.cell 0 rfl
    rw [came_len b ys hys] at c0
    gi_wp2
    refine ⟨by simp, .inl ⟨_, _, rfl, run_takeDeferred hK, ?_⟩⟩
    exact ⟨_, results_tmp rfl _ _ _, rfl, gb_of_below (hB.trans (belowK_b (w := w) (Nat.le_refl _) W D _ _ (by omega) hK rfl rfl))⟩
  case stop =>
    rintro D c pre W _ _ h _
    exact h.elim
end Go.Proofs.YtjbfooaembpdfaaGreatDoor.D5

/-
  The torn write of a fate (fate.torn), over this seat's translation; conditions: the slices read as lists, the tail has three bytes.
-/
namespace Go.Proofs.YtjbfooaembpdfaaGreatDoor.D5
open Go.RowKit Go.Shelf
attribute [local go_sem] Oper.semAt_some

theorem bits_or16 (a b : Nat) (ha : a < 256) (hb : b < 256) : bits BinOp.or IntKind.i64 ((a : Int) * 256) (b : Int) = ((256 * a + b : Nat) : Int) := by
  have e : bits BinOp.or IntKind.i64 ((a : Int) * 256) (b : Int) = IntKind.i64.wrap ((BitVec.ofInt 64 ((a : Int) * 256) ||| BitVec.ofInt 64 (b : Int)).toNat) := rfl
  rw [e, BitVec.toNat_or]
  have h1 : (BitVec.ofInt 64 ((a : Int) * 256)).toNat = 2 ^ 8 * a := by simp [BitVec.toNat_ofInt]; omega
  have h2 : (BitVec.ofInt 64 (b : Int)).toNat = b := by simp; omega
  rw [h1, h2, ← Nat.two_pow_add_eq_or_of_lt (by omega : b < 2 ^ 8)]
  rw [show 2 ^ 8 * a + b = 256 * a + b by omega]
  simp only [IntKind.wrap, IntKind.bits, IntKind.signed]; simp; omega
theorem came_index (b : List Bool) (n j i : Nat) (h : (cameTo b n)[j]? = some i) : i < n ∧ b.getD i false = true ∧ (cameTo b i).length = j := by
  induction n with
  | zero => simp [cameTo] at h
  | succ n ih =>
    cases hb : b.getD n false with
    | false => rw [cameTo_no hb] at h; obtain ⟨h1, h2, h3⟩ := ih h; exact ⟨by omega, h2, h3⟩
    | true =>
      rw [cameTo_yes hb] at h
      rcases Nat.lt_or_ge j (cameTo b n).length with hj | hj
      · rw [List.getElem?_append_left hj] at h; obtain ⟨h1, h2, h3⟩ := ih h; exact ⟨by omega, h2, h3⟩
      · rw [List.getElem?_append_right hj] at h
        have hl := (List.getElem?_eq_some_iff.1 h).1
        simp at hl
        have : j - (cameTo b n).length = 0 := by omega
        rw [this] at h
        obtain rfl : n = i := by simpa using h
        exact ⟨by omega, hb, by omega⟩
theorem came_get (b : List Bool) (n i : Nat) (hi : i < n) (h : b.getD i false = true) : (cameTo b n)[(cameTo b i).length]? = some i := by
  induction n with
  | zero => omega
  | succ n ih =>
    have hlt : ∀ m, i < m → (cameTo b i).length < (cameTo b m).length := by
      intro m hm
      induction m with
      | zero => omega
      | succ m ihm =>
        by_cases e : i = m
        · subst e; rw [cameTo_yes h]; simp
        · have := ihm (by omega)
          cases hb : b.getD m false with
          | false => rw [cameTo_no hb]; exact this
          | true => rw [cameTo_yes hb, List.length_append]; omega
    by_cases e : i = n
    · subst e; rw [cameTo_yes h]; simp
    · have h1 := ih (by omega)
      cases hb : b.getD n false with
      | false => rw [cameTo_no hb]; exact h1
      | true => rw [cameTo_yes hb, List.getElem?_append_left (hlt n (by omega))]; exact h1
theorem heap_fill (B D : Nat) (h : D ≠ B) (W : World) (x y z : Value) : (((W.setCell ⟨B, 0, none⟩ x).setCell ⟨B, 1, none⟩ y).setCell ⟨B, 2, none⟩ z).heap[D]? = W.heap[D]? :=
  (Below.heap_setCell _ ⟨B, 2, none⟩ z D h).trans ((Below.heap_setCell _ ⟨B, 1, none⟩ y D h).trans (Below.heap_setCell _ ⟨B, 0, none⟩ x D h))
/-- The torn write, and its place, as a tail of bytes tells them. -/
def tornS (b : List Bool) (ts : List UInt8) : Bool := decide ((ts.getD 0 0).toNat < 128) && decide (0 < (cameTo b b.length).length)
def tornT (b : List Bool) (ts : List UInt8) : Int := if tornS b ts = true then (((cameTo b b.length).getD ((ts.getD 0 0).toNat % (cameTo b b.length).length) 0 : Nat) : Int) else -1
def atT (b : List Bool) (ts : List UInt8) : Int := if tornS b ts = true then (((256 * (ts.getD 1 0).toNat + (ts.getD 2 0).toNat) % 257 : Nat) : Int) else 0

def TornGot (w : World) (v : Value) (t a : Int) (e : Ending) (w' : World) : Prop := e = .returned (.agg #[v, .int .i64 t, .int .i64 a]) ∧ w.grownBy w' none
set_option maxRecDepth 100000 in
set_option maxHeartbeats 1000000 in
theorem torn_any (v vt : Value) (b : List Bool) (ts : List UInt8) (w : World) (hv : Bls w v b) (ht : Bts w vt ts) (hb : b.length ≤ 1000000) (hts : 3 ≤ ts.length) :
    Calls Tryz.prog 76 #[.agg #[v, .int .i64 (-1), .int .i64 0], vt] w (TornGot w v (tornT b ts) (atT b ts)) := by
  have hcount := count_any v b
  have HV := Lib.hid hv
  obtain ⟨ao, cap, rfl, hnil, hcells⟩ := bls_parts hv
  obtain ⟨x, capt, rfl, hct, hcx⟩ := ht.some (by omega)
  have HN := Lib.hid hnil
  have HC := Lib.hid hcells
  have t0 := hcx 0 _ (bytes_at (l := ts) (by omega))
  have t1 := hcx 1 _ (bytes_at (l := ts) (by omega))
  have t2 := hcx 2 _ (bytes_at (l := ts) (by omega))
  rw [add_zero] at t0
  have T := Lib.hid (And.intro t1 t2)
  clear hcx ht t1 t2
  clear hnil hcells hv
  refine (callsIn_wide (n := 5)).1 ?_
  refine callsIn_of_wp_marks Tryz.func76 rfl trivial ?_ rfl
  simp only [Tryz.ntmps76, List.size_toArray, List.length_cons, List.length_nil, Nat.reduceAdd, Nat.reduceSub, Array.replicate_succ, Array.replicate_zero, List.push_toArray, List.append_toArray, List.nil_append, List.cons_append]
  gi_wp2_with fail
  have b0 := (Blk.mk w 97 #[.slice ao b.length cap, .int .i64 (-1), .int .i64 0]).keep0 (gb_alloc _ (.cells #[.slice none 0 0, .int .i64 0, .int .i64 0] 97) none)
  have b1 := Blk.mk (w.alloc (.cells #[.slice ao b.length cap, .int .i64 (-1), .int .i64 0] 97)) 97 #[.slice none 0 0, .int .i64 0, .int .i64 0]
  have g0 : w.grownBy ((w.alloc (.cells #[.slice ao b.length cap, .int .i64 (-1), .int .i64 0] 97)).alloc (.cells #[.slice none 0 0, .int .i64 0, .int .i64 0] 97)) none := gb_trans (gb_alloc _ _ _) (gb_alloc _ _ _)
  simp only [World.size_alloc] at b1
  generalize (w.alloc (.cells #[.slice ao b.length cap, .int .i64 (-1), .int .i64 0] 97)).alloc (.cells #[.slice none 0 0, .int .i64 0, .int .i64 0] 97) = W0 at b0 b1 g0 ⊢
  refine ⟨trivial, ?_⟩
  gi_at_call 114
  (with_reducible refine (callsIn_wide.2 (hcount W0 (HV.out.keep0 g0) hb)).mono ?_)
  rintro e w1 ⟨rfl, g1⟩
  clear hcount
  replace b0 := b0.keep0 g1
  replace b1 := b1.keep0 g1
  replace g0 := gb_trans g0 g1
  replace t0 := g0.cell t0 (by simp)
  clear g1
  obtain ⟨m, hm⟩ : ∃ m, (cameTo b b.length).length = m := ⟨_, rfl⟩
  obtain ⟨y, hy⟩ : ∃ y, ts.getD 0 0 = y := ⟨_, rfl⟩
  have hmb : m ≤ b.length := by rw [← hm]; exact cameTo_le b _
  rw [hy] at t0
  simp only [hm]
  have c00 := b0.cell 0 rfl
  have c01 := b0.cell 1 rfl
  have c02 := b0.cell 2 rfl
  have r10 := b1.cell 0 rfl
  have r11 := b1.cell 1 rfl
  have r12 := b1.cell 2 rfl
  have q0 := b1.free 0
  have q1 := b1.free 1
  have q2 := b1.free 2
  by_cases hbig : 127 < y.toNat
  · have hS : tornS b ts = false := by unfold tornS; rw [hy]; simp; omega
    have hfin : tornT b ts = -1 ∧ atT b ts = 0 := by unfold tornT atT; rw [hS]; exact ⟨rfl, rfl⟩
    have HF := Lib.hid hfin
    have hd : decide ((127 : Int) < (y.toNat : Int)) = true := by simp; omega
    clear hfin hS
    gi_wp2
    exact ⟨_, fate_row rfl _ _ (w.heap.size + 1) _ _ _ rfl (blk_fill b1 _ _ _), by rw [HF.out.1, HF.out.2], gb_fill g0 (by omega) _ _ _⟩
  · have hd : decide ((127 : Int) < (y.toNat : Int)) = false := by simp; omega
    by_cases hz : m = 0
    · have hS : tornS b ts = false := by unfold tornS; rw [hm, hz]; simp
      have hfin : tornT b ts = -1 ∧ atT b ts = 0 := by unfold tornT atT; rw [hS]; exact ⟨rfl, rfl⟩
      have HF := Lib.hid hfin
      clear hfin hS
      subst hz
      gi_wp2
      exact ⟨_, fate_row rfl _ _ (w.heap.size + 1) _ _ _ rfl (blk_fill b1 _ _ _), by rw [HF.out.1, HF.out.2], gb_fill g0 (by omega) _ _ _⟩
    · have hS : tornS b ts = true := by unfold tornS; rw [hm, hy]; simp; omega
      have hfin : tornT b ts = (((cameTo b b.length).getD (y.toNat % m) 0 : Nat) : Int) ∧ atT b ts = (((256 * (ts.getD 1 0).toNat + (ts.getD 2 0).toNat) % 257 : Nat) : Int) := by unfold tornT atT; rw [hS, hy, hm]; exact ⟨rfl, rfl⟩
      have HF := Lib.hid hfin
      have Hm := Lib.hid hm
      have hm0 : ¬ (m : Int) = 0 := by omega
      have hm1 : ((m : Int) == 0) = false := beq_eq_false_iff_ne.2 hm0
      obtain ⟨j, hj⟩ : ∃ j, y.toNat % m = j := ⟨_, rfl⟩
      have hjm : j < m := by rw [← hj]; exact Nat.mod_lt _ (by omega)
      have hw1 : (y.toNat : Int).tmod (m : Int) = (j : Int) := by rw [← hj]; exact (Int.ofNat_tmod _ _).symm
      have hw3 : (y.toNat : Int) % (m : Int) = (j : Int) := by rw [← hj]; rfl
      have hw2 : IntKind.i64.wrap (j : Int) = (j : Int) := IntWalk.i64_in _ (by omega)
      have hw4 : IntKind.i64.wrap (y.toNat : Int) = (y.toNat : Int) := IntWalk.i64_in _ (by have := y.toNat_lt; omega)
      have Hj := Lib.hid hj
      clear hfin hS hm hj
      have hl0 := b0.lt
      have hl1 := b1.lt
      gi_wp2_with (refine ⟨trivial, ?_⟩; gi_at_call 77; (with_reducible refine (callsIn_wide.2 (arrived_any _ _ _ _)).mono ?_); rintro e w' ⟨rfl, rfl⟩)
      have b2 := (Blk.mk w1 3 #[.int .i64 (j : Nat)]).keep0 (gb_alloc _ (.cells #[.slice ao b.length cap] 95) none)
      have b3 := Blk.mk (w1.alloc (.cells #[.int .i64 (j : Nat)] 3)) 95 #[.slice ao b.length cap]
      have g2 : w1.grownBy ((w1.alloc (.cells #[.int .i64 (j : Nat)] 3)).alloc (.cells #[.slice ao b.length cap] 95)) none := gb_trans (gb_alloc _ _ _) (gb_alloc _ _ _)
      have hsz : ((w1.alloc (.cells #[.int .i64 (j : Nat)] 3)).alloc (.cells #[.slice ao b.length cap] 95)).heap.size = w1.heap.size + 2 := by simp
      simp only [World.size_alloc] at b3
      generalize (w1.alloc (.cells #[.int .i64 (j : Nat)] 3)).alloc (.cells #[.slice ao b.length cap] 95) = W2 at b2 b3 g2 hsz ⊢
      replace b0 := b0.keep0 g2
      replace b1 := b1.keep0 g2
      replace g0 := gb_trans g0 g2
      clear c00 c01 c02 r10 r11 r12 q0 q1 q2 t0
      obtain ⟨i, hi⟩ : ∃ i, (cameTo b b.length).getD j 0 = i := ⟨_, rfl⟩
      have Hi := Lib.hid hi
      clear hi
      refine wpIn_rangeFunc_ownF (a₁ := ?fr) rfl (by omega) (gf := 115) (lb := #[.pointer (some ⟨w1.heap.size + 1, 0, none⟩)]) rfl trivial (enters_of Tryz.func115 (by kernel_rfl) rfl)
        (arrived_stops Fence.wide _ trivial rfl (by omega) (w1.heap.size + 1) w.heap.size ao cap b hb W2 (by omega) (by omega) (b3.cell 0 rfl) HN.out (fun a e hp => low_of HC.out a e hp) (fun a e j u hj => g0.cell (HC.out a e j u hj) (by simp))) kept_t kept_b (Below.refl _ _) (fun _ => rfl)
        (fun pre W => Blk W w.heap.size 97 #[.slice ao b.length cap, .int .i64 (-1), .int .i64 0] ∧ Blk W (w.heap.size + 1) 97 #[.slice none 0 0, .int .i64 0, .int .i64 0] ∧ Blk W w1.heap.size 3 #[.int .i64 (j : Nat)] ∧ Below w.heap.size w W ∧ ∀ y ∈ pre, y.1.1 ≠ j)
        (fun c _ W => c = Code.exit 0 ∧ Blk W w.heap.size 97 #[.slice ao b.length cap, .int .i64 (i : Nat), .int .i64 0] ∧ Blk W (w.heap.size + 1) 97 #[.slice none 0 0, .int .i64 0, .int .i64 0] ∧ Below w.heap.size w W)
        (OwnFrom.and (blk_own _ _ _ _) (OwnFrom.and (blk_own _ _ _ _) (OwnFrom.and (blk_own _ _ _ _) (OwnFrom.and (ownFrom_below (Nat.le_refl _) (by omega)) (fun _ _ _ _ h _ _ => h)))))
        (fun _ => OwnFrom.and (fun _ _ _ _ h _ _ => h) (OwnFrom.and (blk_own _ _ _ _) (OwnFrom.and (blk_own _ _ _ _) (ownFrom_below (Nat.le_refl _) (by omega)))))
        ⟨b0, b1, b2, gb_below g0, by simp⟩
        ?assign ?body ?done ?stop
      case assign =>
        intro l x W K hK
        gi_wp2
        exact hK
      case body =>
        rintro l pre x W ⟨hT0, hT1, hT2, hB, hne⟩ hpl
        have c0 := hT2.cell 0 rfl
        have d1 := hT0.cell 1 rfl
        have e1 := hT0.free 1
        by_cases hx : x.1.1 = j
        · have hxi : x.1.2 = i := by
            have h7 := came_get b b.length x.1.2 x.2.1 x.2.2.1
            rw [← x.2.2.2, hx] at h7
            rw [← Hi.out, List.getD, h7]; rfl
          have hx1 : ((x.1.1 : Int) == (j : Int)) = true := by rw [hx]; simp
          gi_wp2
          exact ⟨KeepsOthers.setCell _ _ _, rfl, hT0.set 1 _, hT1.keep (gb_set _ _ _ _ _) (ne_some (by omega)), hB.setCell (p := ⟨w.heap.size, 1, none⟩) (Nat.le_refl _) _⟩
        · have hx1 : ((x.1.1 : Int) == (j : Int)) = false := beq_eq_false_iff_ne.2 (by omega)
          gi_wp2
          refine ⟨KeepsOthers.refl _, kept_refl _ _, hT0, hT1, hT2, hB, ?_⟩
          intro z hz
          rcases List.mem_append.1 hz with h | h
          · exact hne z h
          · rw [List.mem_singleton.1 h]; exact hx
      case done =>
        rintro D ys W hD hys ⟨hT0, hT1, hT2, hB, hne⟩ hK
        exfalso
        have h7 : j < ys.length := by rw [came_len b ys hys, Hm.out]; exact hjm
        refine hne ys[j] (List.getElem_mem h7) ?_
        have h8 : (cameTo b b.length)[j]? = some ys[j].1.2 := by rw [← hys, List.getElem?_map, List.getElem?_eq_getElem h7]; rfl
        rw [ys[j].2.2.2]
        exact (came_index b _ _ _ h8).2.2
      case stop =>
        rintro D c pre W hD ⟨k, hk, _⟩ ⟨rfl, hT0, hT1, hB⟩ hK
        have t1 := (hB.cell (cell_lt T.out.1)).trans T.out.1
        have t2 := (hB.cell (cell_lt T.out.2)).trans T.out.2
        replace t1 : W.cell? ⟨x.block, x.off + 1, none⟩ = some (.int .u8 ((ts.getD 1 0).toNat : Nat)) := t1
        replace t2 : W.cell? ⟨x.block, x.off + 2, none⟩ = some (.int .u8 ((ts.getD 2 0).toNat : Nat)) := t2
        generalize ts.getD 1 0 = y1 at t1 HF
        generalize ts.getD 2 0 = y2 at t2 HF
        have hy1 := y1.toNat_lt
        have hy2 := y2.toNat_lt
        have hor := bits_or16 y1.toNat y2.toNat hy1 hy2
        obtain ⟨N, hN⟩ : ∃ N, 256 * y1.toNat + y2.toNat = N := ⟨_, rfl⟩
        have hNb : N ≤ 65535 := by omega
        rw [hN] at hor
        have HE : Hid (TornGot w (.slice ao b.length cap) (tornT b ts) (atT b ts) = TornGot w (.slice ao b.length cap) (i : Nat) (N % 257 : Nat)) := by
          refine Lib.hid ?_
          rw [HF.out.1, HF.out.2, Hj.out, Hi.out, hN]
        clear HF hN
        obtain ⟨R, hR⟩ : ∃ R, N % 257 = R := ⟨_, rfl⟩
        rw [hR] at HE
        have hR1 : (N : Int).tmod 257 = (R : Int) := by rw [← hR]; exact (Int.ofNat_tmod _ _).symm
        have hR2 : (N : Int) % 257 = (R : Int) := by rw [← hR]; rfl
        clear hR
        have r0 := hT1.cell 0 rfl
        have r1 := hT1.cell 1 rfl
        have r2 := hT1.cell 2 rfl
        have q0 := hT1.free 0
        have q1 := hT1.free 1
        have q2 := hT1.free 2
        have d0 := hT0.cell 0 rfl
        have d1 := hT0.cell 1 rfl
        have d2 := hT0.cell 2 rfl
        have e2 := hT0.free 2
        have hmx : Tryz.prog.follows .mixedOrders = true := by kernel_rfl
        have l1 : (1 : Int) < (ts.length : Int) := by omega
        have l2 : (2 : Int) < (ts.length : Int) := by omega
        gi_wp2
        gi_region_o
        all_goals gi_wp2
        all_goals
          have hF := (blk_fill (hT1.keep (gb_set W w.heap.size 2 none (.int .i64 (R : Nat))) (ne_some (by omega))) (.slice ao b.length cap) (.int .i64 (i : Nat)) (.int .i64 (R : Nat)))
          have hG := (gb_fill (gb_step (gb_of_below hB) (gb_set W w.heap.size 2 none (.int .i64 (R : Nat))) (Nat.le_refl _)) (B := w.heap.size + 1) (by omega) (.slice ao b.length cap) (.int .i64 (i : Nat)) (.int .i64 (R : Nat)))
          have hKF := (heap_fill (w.heap.size + 1) D (by omega) (W.setCell ⟨w.heap.size, 2, none⟩ (.int .i64 (R : Nat))) (.slice ao b.length cap) (.int .i64 (i : Nat)) (.int .i64 (R : Nat))).trans ((Below.heap_setCell W ⟨w.heap.size, 2, none⟩ (.int .i64 (R : Nat)) D (by show D ≠ w.heap.size; omega)).trans hK)
          generalize (((W.setCell ⟨w.heap.size, 2, none⟩ (.int .i64 (R : Nat))).setCell ⟨w.heap.size + 1, 0, none⟩ (.slice ao b.length cap)).setCell ⟨w.heap.size + 1, 1, none⟩ (.int .i64 (i : Nat))).setCell ⟨w.heap.size + 1, 2, none⟩ (.int .i64 (R : Nat)) = W5 at hF hG hKF ⊢
          refine ⟨by simp, .inl ⟨_, _, rfl, run_takeDeferred (show W5.drew.heap[D]? = _ from hKF), ?_⟩⟩
          refine ⟨_, fate_row rfl _ _ (w.heap.size + 1) _ _ _ rfl ((hF.keep0 (gb_drew _ _)).keep (grownBy_putObj' _ D _) (ne_some (by omega))), ?_⟩
          rw [HE.out]
          exact ⟨rfl, gb_step (gb_trans hG (gb_drew _ _)) (grownBy_putObj' _ D _) (by omega)⟩
end Go.Proofs.YtjbfooaembpdfaaGreatDoor.D5

/-
  Which fate choices tell (fate.Read), and the whole one (fate.Whole), over this seat's translation; conditions: the table of masks reads as the program lays it, the numbers fit their kinds, the slice reads as a list of bytes.
-/
namespace Go.Proofs.YtjbfooaembpdfaaGreatDoor.D5
open Go.RowKit

/-- The first k set, the others not. -/
def firstF (f : Nat → Bool) (N k : Nat) : List Bool := (List.range N).map fun i => decide (i < k) && f i
theorem firstF_length (f : Nat → Bool) (N k : Nat) : (firstF f N k).length = N := by simp [firstF]
theorem firstF_zero (f : Nat → Bool) (N : Nat) : firstF f N 0 = List.replicate N false := by
  apply List.ext_getElem?; intro j; by_cases h : j < N <;> simp [firstF, h]
theorem firstF_all (f : Nat → Bool) (N : Nat) : firstF f N N = (List.range N).map f := by
  apply List.ext_getElem?; intro j; by_cases h : j < N <;> simp [firstF, h]
theorem firstF_set (f : Nat → Bool) (N k : Nat) : (bools (firstF f N k)).toArray.setIfInBounds k (.bool (f k)) = (bools (firstF f N (k + 1))).toArray := by
  apply Array.ext_getElem?
  intro j
  simp only [Array.getElem?_setIfInBounds, List.getElem?_toArray, bools, firstF, List.map_map, List.getElem?_map, List.size_toArray, List.length_map, List.length_range]
  by_cases hj : k = j
  · subst hj
    by_cases h : k < N <;> simp [h]
  · by_cases h : j < N
    · have : (decide (j < k + 1)) = decide (j < k) := by congr 1; apply propext; omega
      simp [hj, h, this]
    · simp [hj, h]
theorem add_lit (b j : Nat) : (⟨b, 0, none⟩ : Addr).add j = ⟨b, j, none⟩ := by
  unfold Addr.add; split
  · next h => rw [h]
  · simp
theorem firstF_at (f : Nat → Bool) (N k : Nat) (h : k < N) : (bools (firstF f N k)).toArray[k]? = some (.bool false) := by
  simp [bools, firstF, h]
theorem bls_of_blk {w : World} {b n : Nat} {l : List Bool} (h : Blk w b 4 (bools l).toArray) (hn : l.length = n) : Bls w (.slice (some ⟨b, 0, none⟩) n n) l := by
  subst hn
  refine ⟨some ⟨b, 0, none⟩, l.length, rfl, Nat.le_refl _, by simp [bools], (fun e => by cases e), ?_⟩
  intro a e j u hj
  cases e
  have := h.cell j (v := u) (by rw [List.getElem?_toArray]; exact hj)
  rw [show (⟨b, 0, none⟩ : Addr).add j = ⟨b, j, none⟩ from add_lit b j]; exact this
/-- A fate that is being filled: its list, its box, the result's box. -/
def Filling (w : World) (fb b : Nat) (f : Nat → Bool) (N k : Nat) (wr : World) : Prop :=
  Blk wr b 4 (bools (firstF f N k)).toArray ∧ Blk wr fb 97 #[.slice (some ⟨b, 0, none⟩) N N, .int .i64 (-1), .int .i64 0] ∧ Blk wr w.heap.size 97 #[.slice none 0 0, .int .i64 0, .int .i64 0] ∧ w.grownBy wr none
theorem Filling.step {w wr : World} {fb b : Nat} {f : Nat → Bool} {N k : Nat} (h : Filling w fb b f N k wr) (h1 : w.heap.size + 1 ≤ b) (h2 : b < fb) : Filling w fb b f N (k + 1) (wr.setCell ⟨b, k, none⟩ (.bool (f k))) :=
  ⟨by rw [← firstF_set]; exact h.1.set k _, h.2.1.keep (gb_set _ _ _ _ _) (ne_some (by omega)), h.2.2.1.keep (gb_set _ _ _ _ _) (ne_some (by omega)), gb_step h.2.2.2 (gb_set _ _ _ _ _) (by omega)⟩
theorem Filling.keep0 {w wr w' : World} {fb b : Nat} {f : Nat → Bool} {N k : Nat} (h : Filling w fb b f N k wr) (g : wr.grownBy w' none) : Filling w fb b f N k w' :=
  ⟨h.1.keep0 g, h.2.1.keep0 g, h.2.2.1.keep0 g, gb_trans h.2.2.2 g⟩
theorem Filling.done {w wr : World} {fb b : Nat} {f : Nat → Bool} {N : Nat} (h : Filling w fb b f N N wr) (h1 : w.heap.size + 1 ≤ b) :
    FateGot w ((List.range N).map f) (-1) 0 (.returned (.agg #[.slice (some ⟨b, 0, none⟩) N N, .int .i64 (-1), .int .i64 0])) (((wr.setCell ⟨w.heap.size, 0, none⟩ (.slice (some ⟨b, 0, none⟩) N N)).setCell ⟨w.heap.size, 1, none⟩ (.int .i64 (-1))).setCell ⟨w.heap.size, 2, none⟩ (.int .i64 0)) := by
  have hb := h.1
  rw [firstF_all] at hb
  have hne : b ≠ w.heap.size := by omega
  exact ⟨_, rfl, bls_of_blk (((hb.keep (gb_set _ _ _ _ _) (ne_some hne)).keep (gb_set _ _ _ _ _) (ne_some hne)).keep (gb_set _ _ _ _ _) (ne_some hne)) (by simp), gb_fill h.2.2.2 (Nat.le_refl _) _ _ _⟩
end Go.Proofs.YtjbfooaembpdfaaGreatDoor.D5

/-
  Which fate choices tell (fate.Read), over this seat's translation; conditions: the table of masks reads as the program lays it, the numbers fit their kinds, the slice reads as a list of bytes.
-/
namespace Go.Proofs.YtjbfooaembpdfaaGreatDoor.D5
open Go.RowKit

theorem add_add (a : Addr) (i j : Nat) : (a.add i).add j = a.add (i + j) := by
  unfold Addr.add
  by_cases hi : i = 0
  · subst hi; simp
  · by_cases hj : j = 0
    · subst hj; simp [hi]
    · simp [hi, hj, Nat.add_assoc]
/-- The bytes behind some first ones. -/
theorem bts_drop {w : World} {a : Addr} {cs : List UInt8} (h : ∀ j u, (bytesC cs)[j]? = some u → w.cell? (a.add j) = some u) (s : Nat) (ca : Nat) (hca : cs.length ≤ ca) : Bts w (.slice (some (a.add s)) (cs.length - s) (ca - s)) (cs.drop s) := by
  refine ⟨some (a.add s), ca - s, by simp, by simp; omega, by simp [bytesC], (fun e => by cases e), ?_⟩
  intro x e j u hj
  cases e
  rw [add_add]
  refine h (s + j) u ?_
  rw [← hj]; simp [bytesC, List.getElem?_drop]
theorem torn_link (cs : List UInt8) (N : Nat) (h : (N + 7) / 8 + 3 ≤ cs.length) : tornT (cameF cs N) (cs.drop ((N + 7) / 8)) = tornF cs N ∧ atT (cameF cs N) (cs.drop ((N + 7) / 8)) = atF cs N := by
  have hg : ∀ k, (cs.drop ((N + 7) / 8)).getD k 0 = cs.getD ((N + 7) / 8 + k) 0 := fun k => by simp [List.getD, List.getElem?_drop]
  have hS : tornS (cameF cs N) (cs.drop ((N + 7) / 8)) = tornB cs N := by
    unfold tornS tornB
    rw [hg, cameF_length, Nat.add_zero]
    simp [h]
  unfold tornT tornF atT atF
  rw [hS, hg, hg, hg, cameF_length, Nat.add_zero]
  exact ⟨rfl, rfl⟩
theorem torn_none (cs : List UInt8) (N : Nat) (h : ¬ (N + 7) / 8 + 3 ≤ cs.length) : tornF cs N = -1 ∧ atF cs N = 0 := by
  have hS : tornB cs N = false := by unfold tornB; simp [h]
  unfold tornF atF
  rw [hS]
  exact ⟨rfl, rfl⟩
set_option maxRecDepth 100000 in
set_option maxHeartbeats 2000000 in
theorem read_any (vc : Value) (cs : List UInt8) (n : Int) (w : World) (hm : Masks w) (hv : Bts w vc cs) (h1 : -9223372036854775808 ≤ n) (h2 : n ≤ 9223372036854775807) :
    Calls Tryz.prog 36 #[vc, .int .i64 n] w (FateGot w (cameF cs (manyN n)) (tornF cs (manyN n)) (atF cs (manyN n))) := by
  have hN := manyN_le n
  have HBl := Lib.hid (blank_any n (w.alloc (.cells #[.slice none 0 0, .int .i64 0, .int .i64 0] 97)) h1 h2)
  generalize hNm : manyN n = N at *
  clear hNm
  have HV := Lib.hid hv
  have HM := Lib.hid hm
  obtain ⟨ao, ca, rfl, hca, _, hna, hxa⟩ := hv
  have HA := Lib.hid hxa
  have HA0 := Lib.hid hna
  clear hxa hna hm
  go_enter Tryz.func36, Tryz.ntmps36
  go_wp2_with fail
  go_at_call 73
  (with_reducible refine HBl.out.mono ?_)
  clear HBl
  rintro e w1 ⟨b, rfl, hb, kb, g1⟩
  have r0 := (Blk.mk w 97 #[.slice none 0 0, .int .i64 0, .int .i64 0]).keep0 g1
  have g0 := gb_trans (gb_alloc w (.cells #[.slice none 0 0, .int .i64 0, .int .i64 0] 97) none) g1
  simp only [World.size_alloc] at hb
  clear g1
  have hlb := kb.lt
  have hlr := r0.lt
  have f0 := (Blk.mk w1 97 #[.slice (some ⟨b, 0, none⟩) N N, .int .i64 (-1), .int .i64 0])
  have g2 := gb_alloc w1 (.cells #[.slice (some ⟨b, 0, none⟩) N N, .int .i64 (-1), .int .i64 0] 97) none
  have hF : Filling w w1.heap.size b (wentB cs) N 0 (w1.alloc (.cells #[.slice (some ⟨b, 0, none⟩) N N, .int .i64 (-1), .int .i64 0] 97)) :=
    ⟨by rw [firstF_zero]; exact kb.keep0 g2, f0, r0.keep0 g2, gb_trans g0 g2⟩
  clear kb r0 g0 f0 g2
  go_wp2_with fail
  generalize w1.alloc (.cells #[.slice (some ⟨b, 0, none⟩) N N, .int .i64 (-1), .int .i64 0] 97) = W0 at hF ⊢
  go_loopw [6, 13] (fun _ v wr => ∃ k : Nat, k ≤ N ∧ v = .int .i64 k ∧ Filling w w1.heap.size b (wentB cs) N k wr) (fun _ v _ => N - (intOf v).toNat)
  case atStart => exact ⟨0, by omega, rfl, hF⟩
  case round =>
    obtain ⟨k, hk, rfl, hf⟩ := hrel
    clear hF
    have hf' := hf
    obtain ⟨kb, f0, r0, g0⟩ := hf'
    have c0 := f0.cell 0 rfl
    by_cases hlt : k < N
    · have d0 := kb.cell k (firstF_at _ N k hlt)
      have e0 := kb.free k
      have HG := Lib.hid g0
      have HFl := Lib.hid hf
      clear hf kb f0 r0 g0
      go_wp2
      go_region_with (go_at_call 74; (with_reducible refine (isSet_any _ cs k _ (HM.out.keep0 (gb_trans HG.out (by first | exact gb_drew _ _ | exact gb_refl _ _))) (HV.out.keep0 (gb_trans HG.out (by first | exact gb_drew _ _ | exact gb_refl _ _))) (by omega)).mono ?_); rintro e w' ⟨rfl, g3⟩; have c03 := g3.cell (show wr.drew.cell? _ = _ from c0) (by simp); have d03 := g3.cell (show wr.drew.cell? _ = _ from d0) (by simp); have e03 := (HFl.out.1.keep0 (gb_trans (gb_drew _ _) g3)).free k)
      all_goals
        have hnew := (HFl.out.keep0 (gb_trans (gb_drew _ _) g3)).step (by omega) (by omega)
        go_wp2
        go_roundw
        case rel => exact ⟨k + 1, by omega, by go_num, hnew⟩
        case measure => simp [intOf]; omega
    · obtain rfl : k = N := by omega
      have c1 := f0.cell 1 rfl
      have c2 := f0.cell 2 rfl
      have r00 := r0.cell 0 rfl
      have r01 := r0.cell 1 rfl
      have r02 := r0.cell 2 rfl
      have e0 := r0.free 0
      have e1 := r0.free 1
      have e2 := r0.free 2
      by_cases h3 : (k + 7) / 8 + 3 ≤ cs.length
      · have hlink := torn_link cs k h3
        have hcam := firstF_all (wentB cs) k
        have HL := Lib.hid (And.intro hlink hcam)
        have HFl := Lib.hid hf
        obtain ⟨q, hq⟩ : ∃ q, (k + 7) / 8 = q := ⟨_, rfl⟩
        rw [hq] at h3
        have Hq := Lib.hid hq
        have hqd : decide ((cs.length : Int) < ((q : Nat) : Int) + 3) = false := by simp; omega
        have hq0 : (0 : Int) ≤ (q : Int) := by omega
        have hqb : q ≤ 513 := by omega
        have hw3 : IntKind.i64.wrap ((q : Int) + 3) = (q : Int) + 3 := IntWalk.i64_in _ (by omega)
        cases ao with
        | none => have := (HA0.out rfl).1; omega
        | some x =>
          have hKb : Blk wr b 4 (bools (cameF cs k)).toArray := by have := kb; rw [hcam] at this; exact this
          have hB1 : Bls wr (.slice (some ⟨b, 0, none⟩) k k) (cameF cs k) := bls_of_blk hKb (cameF_length cs k)
          have hB2 : Bts wr (.slice (some (x.add q)) (cs.length - q) (ca - q)) (cs.drop q) := (bts_drop (HA.out x rfl) q ca hca).keep0 g0
          have hTn : ∀ W, wr.grownBy W none → Calls Tryz.prog 76 #[.agg #[.slice (some ⟨b, 0, none⟩) k k, .int .i64 (-1), .int .i64 0], .slice (some (x.add q)) (cs.length - q) (ca - q)] W (TornGot W (.slice (some ⟨b, 0, none⟩) k k) (tornF cs k) (atF cs k)) := by
            intro W g
            have h := torn_any _ _ (cameF cs k) (cs.drop q) W (hB1.keep0 g) (hB2.keep0 g) (by rw [cameF_length]; omega) (by simp; omega)
            rw [← hq, hlink.1, hlink.2, hq] at h
            exact h
          have HTn := Lib.hid hTn
          have HKb := Lib.hid hKb
          have HG := Lib.hid g0
          have HR := Lib.hid r0
          clear hf hlink hcam kb g0 hq hB1 hB2 hTn hKb
          go_wp2_with (go_at_call 75; (with_reducible refine (sizeFor_any k _ (by omega)).mono ?_); rintro e w' ⟨he, rfl⟩; rw [Hq.out] at he; subst he)
          go_region_with (go_at_call 76; (with_reducible refine (HTn.out _ (gb_drew _ _)).mono ?_); rintro e w' ⟨rfl, g3⟩; have r3 := HR.out.keep0 (gb_trans (gb_drew _ _) g3); have r00 := r3.cell 0 rfl; have r01 := r3.cell 1 rfl; have r02 := r3.cell 2 rfl; have e0 := r3.free 0; have e1 := r3.free 1; have e2 := r3.free 2)
          all_goals
            have hne : b ≠ w.heap.size := by omega
            have hfin : FateGot w (cameF cs k) (tornF cs k) (atF cs k) (.returned (.agg #[.slice (some ⟨b, 0, none⟩) k k, .int .i64 (tornF cs k), .int .i64 (atF cs k)])) (((w'.setCell ⟨w.heap.size, 0, none⟩ (.slice (some ⟨b, 0, none⟩) k k)).setCell ⟨w.heap.size, 1, none⟩ (.int .i64 (tornF cs k))).setCell ⟨w.heap.size, 2, none⟩ (.int .i64 (atF cs k))) :=
              ⟨_, rfl, bls_of_blk (((HKb.out.keep0 (gb_trans (gb_drew _ _) g3)).keep (gb_set _ _ _ _ _) (ne_some hne)).keep (gb_set _ _ _ _ _) (ne_some hne) |>.keep (gb_set _ _ _ _ _) (ne_some hne)) (cameF_length cs k), gb_fill (gb_trans HG.out (gb_trans (gb_drew _ _) g3)) (Nat.le_refl _) _ _ _⟩
            have HFi := Lib.hid hfin
            clear hfin
            go_wp2
            exact bodyPost_ret (fate_row rfl _ _ w.heap.size _ _ _ rfl (blk_fill r3 _ _ _)) rfl HFi.out
      · have hfin := hf.done (by omega)
        have hT := torn_none cs k h3
        rw [show (List.range k).map (wentB cs) = cameF cs k from rfl] at hfin
        have HF := Lib.hid hfin
        have HT := Lib.hid hT
        obtain ⟨q, hq⟩ : ∃ q, (k + 7) / 8 = q := ⟨_, rfl⟩
        rw [hq] at h3
        have hqd : decide ((cs.length : Int) < ((q : Nat) : Int) + 3) = true := by simp; omega
        clear hf hfin hT kb g0
        go_wp2_with (go_at_call 75; (with_reducible refine (sizeFor_any k _ (by omega)).mono ?_); rintro e w' ⟨rfl, rfl⟩)
        rw [HT.out.1, HT.out.2]
        exact bodyPost_ret (fate_row rfl _ _ w.heap.size _ _ _ rfl (blk_fill r0 _ _ _)) rfl HF.out
end Go.Proofs.YtjbfooaembpdfaaGreatDoor.D5

/-
  Whether a fate may be (fate.mayBe, foyerref04.May), and how many came ahead of the torn write (fate.aheadOf), over this seat's translation; conditions: the slice reads as a list of bools.
-/
namespace Go.Proofs.YtjbfooaembpdfaaGreatDoor.D5
open Go.RowKit

/-- May a fate be? -/
def mayF (l : List Bool) (t a : Int) : Bool := if t = -1 then decide (a = 0) else decide (0 ≤ t) && (decide (t < (l.length : Int)) && (l.getD t.toNat false && (decide (0 ≤ a) && decide (a ≤ 256))))
theorem may_minus (l : List Bool) (a : Int) : mayF l (-1) a = decide (a = 0) := if_pos rfl
theorem may_low (l : List Bool) {t : Int} (a : Int) (h : t ≠ -1) (h1 : t < 0) : mayF l t a = false := by
  unfold mayF; rw [if_neg h, decide_eq_false (by omega)]; rfl
theorem may_high (l : List Bool) {t : Int} (a : Int) (h : 0 ≤ t) (h1 : (l.length : Int) ≤ t) : mayF l t a = false := by
  unfold mayF; rw [if_neg (by omega), decide_eq_false (p := t < _) (by omega)]; simp
theorem may_not (l : List Bool) (i : Nat) (a : Int) (h1 : l.getD i false = false) : mayF l (i : Int) a = false := by
  unfold mayF; rw [if_neg (by omega), show ((i : Int)).toNat = i from rfl, h1]; simp
theorem may_at (l : List Bool) (i : Nat) (a : Int) (h : i < l.length) (h1 : l.getD i false = true) : mayF l (i : Int) a = (decide (0 ≤ a) && decide (a ≤ 256)) := by
  unfold mayF; rw [if_neg (by omega), show ((i : Int)).toNat = i from rfl, h1, decide_eq_true (p := 0 ≤ (i : Int)) (by omega), decide_eq_true (p := (i : Int) < _) (by omega)]; simp
def MayGot (w : World) (l : List Bool) (t a : Int) (e : Ending) (w' : World) : Prop := e = .returned (.bool (mayF l t a)) ∧ w.grownBy w' none
end Go.Proofs.YtjbfooaembpdfaaGreatDoor.D5

/-
  How many came ahead of the torn write (fate.aheadOf), over this seat's translation; conditions: the slice reads as a list of bools.
-/
namespace Go.Proofs.YtjbfooaembpdfaaGreatDoor.D5
open Go.RowKit Go.Shelf
attribute [local go_sem] Oper.semAt_some

def aheadN (l : List Bool) (t : Int) : Nat := if 0 ≤ t ∧ t < (l.length : Int) ∧ l.getD t.toNat false = true then (cameTo l t.toNat).length else 0
theorem ahead_at (l : List Bool) (x : Came l) {t : Int} (h : (x.1.2 : Int) = t) : aheadN l t = x.1.1 := by
  subst h
  unfold aheadN
  rw [if_pos ⟨by omega, by have := x.2.1; omega, x.2.2.1⟩]
  exact x.2.2.2.symm
theorem ahead_none (l : List Bool) (ys : List (Came l)) (t : Int) (hy : ys.map (fun x => x.1.2) = cameTo l l.length) (h : ∀ y ∈ ys, (y.1.2 : Int) ≠ t) : aheadN l t = 0 := by
  unfold aheadN
  by_cases hc : 0 ≤ t ∧ t < (l.length : Int) ∧ l.getD t.toNat false = true
  · exfalso
    obtain ⟨h0, h1, h2⟩ := hc
    have h3 := came_get l l.length t.toNat (by omega) h2
    rw [← hy, List.getElem?_map] at h3
    obtain ⟨y, hy1, hy2⟩ := Option.map_eq_some_iff.1 h3
    exact h y (List.mem_of_getElem? hy1) (by omega)
  · rw [if_neg hc]
theorem int_row {fn : Func} {p : Tmp} (h : fn.results = #[.cell p 3]) (tmps : Array Value) (w : World) (B : Nat) (z : Int)
    (hp : tmps.getD p undef = .pointer (some ⟨B, 0, none⟩)) (hb : Blk w B 3 #[.int .i64 z]) : (results fn tmps).run Tryz.prog w = .ok (.int .i64 z) w := by
  have r0 := hb.cell 0 rfl
  have hp' : tmps[p]?.getD undef = .pointer (some ⟨B, 0, none⟩) := by simpa using hp
  simp [results, h, hp', go_sem, r0]
def AheadGot (w : World) (l : List Bool) (t : Int) (e : Ending) (w' : World) : Prop := e = .returned (.int .i64 (aheadN l t : Nat)) ∧ w.grownBy w' none
end Go.Proofs.YtjbfooaembpdfaaGreatDoor.D5

/-
  The bytes of a fate: plain mathematics (bits set one by one, read again), no conditions beside those that each law states.
-/
namespace Go.Proofs.YtjbfooaembpdfaaGreatDoor.D5
open Go.RowKit

def orAt (l : List UInt8) (i : Nat) : List UInt8 := l.set (i / 8) (UInt8.ofNat ((l.getD (i / 8) 0).toNat ||| 2 ^ (i % 8)))
def addAt (l : List UInt8) (i : Nat) : List UInt8 := l.set (i / 8) (UInt8.ofNat ((l.getD (i / 8) 0).toNat + 2 ^ (i % 8)))
theorem orAt_length (l : List UInt8) (i : Nat) : (orAt l i).length = l.length := by simp [orAt]
theorem foldl_or_length (is : List Nat) : ∀ l : List UInt8, (is.foldl orAt l).length = l.length := by
  induction is with
  | nil => intro l; rfl
  | cons i is ih => intro l; rw [List.foldl_cons, ih, orAt_length]
def sizeN (n : Nat) : Nat := (n + 7) / 8
/-- The bytes of the first k. -/
def bitsTo (l : List Bool) (k : Nat) : List UInt8 := (cameTo l k).foldl orAt (List.replicate (sizeN l.length) 0)
theorem bitsTo_length (l : List Bool) (k : Nat) : (bitsTo l k).length = sizeN l.length := by
  unfold bitsTo; rw [foldl_or_length]; simp
theorem getD_set (l : List UInt8) (i j : Nat) (v : UInt8) (h : i < l.length) : (l.set i v).getD j 0 = if i = j then v else l.getD j 0 := by
  by_cases e : i = j
  · subst e; simp [List.getD, h]
  · simp [List.getD, e]
theorem byte_or_lt (c : UInt8) (r : Nat) (hr : r < 8) : c.toNat ||| 2 ^ r < 256 := by
  have h1 : c.toNat < 2 ^ 8 := c.toNat_lt
  have h2 : 2 ^ r < 2 ^ 8 := Nat.pow_lt_pow_right (by omega) hr
  exact Nat.or_lt_two_pow h1 h2
theorem u8_of (n : Nat) (h : n < 256) : (UInt8.ofNat n).toNat = n := by simp; omega
theorem orAt_bit (s : List UInt8) (i j r : Nat) (hi : i / 8 < s.length) (hr : r < 8) : ((orAt s i).getD j 0).toNat.testBit r = ((s.getD j 0).toNat.testBit r || decide (i = 8 * j + r)) := by
  unfold orAt
  rw [getD_set _ _ _ _ hi]
  by_cases e : i / 8 = j
  · rw [if_pos e]
    have hm := byte_or_lt (s.getD (i / 8) 0) (i % 8) (Nat.mod_lt _ (by omega))
    rw [u8_of _ hm, Nat.testBit_or, Nat.testBit_two_pow, e]
    congr 1
    apply decide_eq_decide.2
    omega
  · rw [if_neg e]
    have : decide (i = 8 * j + r) = false := decide_eq_false (by omega)
    rw [this]; simp
theorem bitsTo_bit (l : List Bool) (k : Nat) (hk : k ≤ l.length) : ∀ j r, r < 8 → ((bitsTo l k).getD j 0).toNat.testBit r = (decide (8 * j + r < k) && l.getD (8 * j + r) false) := by
  induction k with
  | zero =>
    intro j r _
    have : (bitsTo l 0).getD j 0 = 0 := by
      simp [bitsTo, cameTo, List.getD, List.getElem?_replicate]
      split <;> rfl
    rw [this]; simp
  | succ k ih =>
    intro j r hr
    have ih' := ih (by omega) j r hr
    cases hb : l.getD k false with
    | false =>
      have : bitsTo l (k + 1) = bitsTo l k := by unfold bitsTo; rw [cameTo_no hb]
      rw [this, ih']
      by_cases e : 8 * j + r = k
      · rw [e, hb]; simp
      · have : decide (8 * j + r < k + 1) = decide (8 * j + r < k) := decide_eq_decide.2 (by omega)
        rw [this]
    | true =>
      have : bitsTo l (k + 1) = orAt (bitsTo l k) k := by unfold bitsTo; rw [cameTo_yes hb, List.foldl_append]; rfl
      rw [this, orAt_bit _ _ _ _ (by rw [bitsTo_length]; unfold sizeN; omega) hr, ih']
      by_cases e : k = 8 * j + r
      · rw [← e, hb]; simp
      · have h1 : decide (8 * j + r < k + 1) = decide (8 * j + r < k) := decide_eq_decide.2 (by omega)
        rw [h1, decide_eq_false e]; simp
/-- What the document's own answer adds is what the program sets. -/
theorem add_or (l : List Bool) (k : Nat) (hk : k ≤ l.length) : (cameTo l k).foldl addAt (List.replicate (sizeN l.length) 0) = bitsTo l k := by
  induction k with
  | zero => rfl
  | succ k ih =>
    have ih' := ih (by omega)
    cases hb : l.getD k false with
    | false => unfold bitsTo; rw [cameTo_no hb]; exact ih'
    | true =>
      have h1 : bitsTo l (k + 1) = orAt (bitsTo l k) k := by unfold bitsTo; rw [cameTo_yes hb, List.foldl_append]; rfl
      rw [h1, cameTo_yes hb, List.foldl_append, ih']
      show addAt (bitsTo l k) k = _
      unfold addAt orAt
      have hlt : ((bitsTo l k).getD (k / 8) 0).toNat < 2 ^ (k % 8) := by
        apply Nat.lt_pow_two_of_testBit
        intro r hr
        by_cases h8 : r < 8
        · rw [bitsTo_bit l k (by omega) _ _ h8, decide_eq_false (by omega)]; rfl
        · apply Nat.testBit_lt_two_pow
          have h2 : ((bitsTo l k).getD (k / 8) 0).toNat < 2 ^ 8 := UInt8.toNat_lt _
          exact Nat.lt_of_lt_of_le h2 (Nat.pow_le_pow_right (by omega) (by omega))
      have := Nat.two_pow_add_eq_or_of_lt hlt 1
      rw [Nat.mul_one] at this
      rw [Nat.add_comm, this, Nat.or_comm]
/-- The bytes of a fate, and what is wrong with one. -/
def tailB (l : List Bool) (t a : Int) : List UInt8 := if t = -1 then [] else [UInt8.ofNat (aheadN l t), UInt8.ofNat (a.toNat / 256), UInt8.ofNat (a.toNat % 256)]
def longF (l : List Bool) (t : Int) : Bool := decide (127 < aheadN l t) || decide (4096 < l.length)
def putE (l : List Bool) (t a : Int) : Int := if mayF l t a = true then (if longF l t = true then 4 else 0) else 2
def putB (l : List Bool) (t a : Int) : List UInt8 := if mayF l t a = true then (if longF l t = true then [] else bitsTo l l.length ++ tailB l t a) else []
theorem may_cases {l : List Bool} {t a : Int} (h : mayF l t a = true) : (t = -1 ∧ a = 0) ∨ ∃ i : Nat, t = i ∧ i < l.length ∧ l.getD i false = true ∧ 0 ≤ a ∧ a ≤ 256 := by
  unfold mayF at h
  by_cases e : t = -1
  · rw [if_pos e] at h; exact .inl ⟨e, of_decide_eq_true h⟩
  · rw [if_neg e] at h
    simp only [Bool.and_eq_true, decide_eq_true_eq] at h
    obtain ⟨h1, h2, h3, h4, h5⟩ := h
    obtain ⟨i, rfl⟩ := Int.eq_ofNat_of_zero_le h1
    exact .inr ⟨i, rfl, by omega, h3, h4, h5⟩
theorem ahead_i (l : List Bool) (i : Nat) (h : i < l.length) (hb : l.getD i false = true) : aheadN l (i : Int) = (cameTo l i).length := by
  unfold aheadN; rw [if_pos ⟨by omega, by omega, hb⟩]; rfl
theorem ahead_minus (l : List Bool) : aheadN l (-1) = 0 := by unfold aheadN; rw [if_neg (by omega)]
theorem bits_or : ∀ c : Fin 256, ∀ r : Fin 8, bits BinOp.or IntKind.u8 (c.val : Int) (2 ^ r.val) = ((c.val ||| 2 ^ r.val : Nat) : Int) := by decide +kernel
end Go.Proofs.YtjbfooaembpdfaaGreatDoor.D5

/-
  The choices of a fate (fate.Put), over this seat's translation; conditions: the table of masks reads as the program lays it, the slice reads as a list of bools.
-/
namespace Go.Proofs.YtjbfooaembpdfaaGreatDoor.D5
open Go.RowKit Go.Shelf
attribute [local go_sem] Oper.semAt_some

/-- The bytes behind the bits of some writes. -/
def orsOf {b : List Bool} (pre : List (Came b)) (S : Nat) : List UInt8 := (pre.map fun x => x.1.2).foldl orAt (List.replicate S 0)
theorem orsOf_snoc {b : List Bool} (pre : List (Came b)) (x : Came b) (S : Nat) : orsOf (pre ++ [x]) S = orAt (orsOf pre S) x.1.2 := by
  unfold orsOf; rw [List.map_append, List.foldl_append]; rfl
theorem orsOf_length {b : List Bool} (pre : List (Came b)) (S : Nat) : (orsOf pre S).length = S := by
  unfold orsOf; rw [foldl_or_length]; simp
theorem bytes_set (s : List UInt8) (q z : Nat) (hz : z < 256) : (bytesC s).toArray.setIfInBounds q (.int .u8 (z : Nat)) = (bytesC (s.set q (UInt8.ofNat z))).toArray := by
  rw [List.setIfInBounds_toArray]
  congr 1
  unfold bytesC
  rw [List.map_set, u8_of z hz]
theorem bts_of_blk {w : World} {b n : Nat} {l : List UInt8} (h : Blk w b 5 (bytesC l).toArray) (hn : l.length = n) : Bts w (.slice (some ⟨b, 0, none⟩) n n) l := by
  subst hn
  refine ⟨some ⟨b, 0, none⟩, l.length, rfl, Nat.le_refl _, by simp [bytesC], (fun e => by cases e), ?_⟩
  intro a e j u hj
  cases e
  have := h.cell j (v := u) (by rw [List.getElem?_toArray]; exact hj)
  rw [add_lit]; exact this
theorem cells3_new (w : World) (x y z : Value) (t : TypeId) : ∀ j u, [x, y, z][j]? = some u → (w.alloc (.cells #[x, y, z] t)).cell? ((⟨w.heap.size, 0, none⟩ : Addr).add j) = some u := by
  intro j u hj
  rw [add_lit]
  exact (Blk.mk w t #[x, y, z]).cell j (by rw [List.getElem?_toArray]; exact hj)
theorem one3 (x y z : Int) : ∀ u ∈ [Value.int .u8 x, .int .u8 y, .int .u8 z], u.oneCell' = true := by
  intro u hu
  simp at hu
  rcases hu with rfl | rfl | rfl <;> rfl
theorem bytes_app3 (l : List UInt8) (x y z : Nat) (hx : x < 256) (hy : y < 256) (hz : z < 256) : bytesC (l ++ [UInt8.ofNat x, UInt8.ofNat y, UInt8.ofNat z]) = bytesC l ++ [.int .u8 (x : Nat), .int .u8 (y : Nat), .int .u8 (z : Nat)] := by
  unfold bytesC
  rw [List.map_append]
  simp only [List.map_cons, List.map_nil, u8_of x hx, u8_of y hy, u8_of z hz]
theorem own_not {w : World} {base size n D : Nat} {e : TypeId} {v : Value} {xs : List Value} {x : Option (List Deferred)} (h : w.ownsRow base e size v n xs) (hK : w.heap[D]? = some (.deferred x)) : v.ownBlock ≠ some D := by
  rcases h.2 with ⟨rfl, _⟩ | ⟨g, cap, cur, rfl, _, hg, _⟩
  · intro h; cases h
  · intro h
    have h2 : some g = some D := h
    rw [Option.some.inj h2, hK] at hg
    cases hg
def PutGot (w : World) (l : List Bool) (t a : Int) (e : Ending) (w' : World) : Prop := ∃ v, e = .returned (.tuple #[v, .int .i64 (putE l t a)]) ∧ Bts w' v (putB l t a) ∧ w.grownBy w' none
theorem put_arg (l : List Bool) (t a : Int) (h : mayF l t a = false) : putE l t a = 2 ∧ putB l t a = [] := by
  unfold putE putB; rw [h]; exact ⟨rfl, rfl⟩
theorem put_long (l : List Bool) (t a : Int) (h : mayF l t a = true) (h2 : longF l t = true) : putE l t a = 4 ∧ putB l t a = [] := by
  unfold putE putB; rw [h, h2]; exact ⟨rfl, rfl⟩
theorem put_ok (l : List Bool) (t a : Int) (h : mayF l t a = true) (h2 : longF l t = false) : putE l t a = 0 ∧ putB l t a = bitsTo l l.length ++ tailB l t a := by
  unfold putE putB; rw [h, h2]; exact ⟨rfl, rfl⟩
theorem two_row {fn : Func} {p q : Tmp} (h : fn.results = #[.tmp p, .tmp q]) (tmps : Array Value) (P : Program) (w : World) : (results fn tmps).run P w = .ok (.tuple #[tmps.getD p undef, tmps.getD q undef]) w := by
  simp [results, h]
theorem _root_.Go.Proofs.YtjbfooaembpdfaaGreatDoor.Bts.nil (w : World) : Bts w (.slice none 0 0) [] := Sl.nil 1 w
end Go.Proofs.YtjbfooaembpdfaaGreatDoor.D5

/-
  What comes of one write: whether it fits (fate.fits), and what is in a sector behind a torn one (fate.cut), over this seat's translation; conditions: the numbers fit their kinds, the texts are as long as a sector.
-/
namespace Go.Proofs.YtjbfooaembpdfaaGreatDoor.D5
open Go.RowKit

/-- How many first bytes. -/
def clampN (a : Int) : Nat := min a.toNat 256
theorem clampN_le (a : Int) : clampN a ≤ 256 := Nat.min_le_right _ _
def cutS (d : ByteArray) (a : Int) (had : ByteArray) : ByteArray := d.extract 0 (clampN a) ++ had.extract (clampN a) 256
def fitsB (k : Int) (d : ByteArray) (n : Nat) : Bool := decide (0 ≤ k) && (decide (k < (n : Int)) && decide (d.size = 256))
def FitsGot (w : World) (k : Int) (d : ByteArray) (n : Nat) (e : Ending) (w' : World) : Prop := e = .returned (.bool (fitsB k d n)) ∧ w.grownBy w' none
set_option maxRecDepth 100000 in
set_option maxHeartbeats 1000000 in
theorem fits_any (k : Int) (d : ByteArray) (n : Nat) (w : World) : Calls Tryz.prog 78 #[.agg #[.int .i64 k, .string d], .int .i64 (n : Nat)] w (FitsGot w k d n) := by
  have g0 := gb_alloc w (.cells #[.int .i64 k, .string d] 110) none
  rcases Int.lt_or_le k 0 with h | h
  · have hd : decide (0 ≤ k) = false := decide_eq_false (by omega)
    have H := Lib.hid (show fitsB k d n = false by unfold fitsB; rw [hd]; rfl)
    go_enter Tryz.func78, Tryz.ntmps78
    go_wp2
    go_ret
    exact ⟨by rw [H.out]; rfl, g0⟩
  · have hd : decide (0 ≤ k) = true := decide_eq_true h
    rcases Int.lt_or_le k (n : Int) with h1 | h1
    · have hd2 : decide (k < (n : Int)) = true := decide_eq_true h1
      by_cases h2 : d.size = 256
      · have H := Lib.hid (show fitsB k d n = true by unfold fitsB; rw [hd, hd2, decide_eq_true h2]; rfl)
        have h3 : ((d.size : Int) == 256) = true := by rw [h2]; rfl
        go_enter Tryz.func78, Tryz.ntmps78
        go_wp2
        go_ret
        exact ⟨by rw [H.out]; rfl, g0⟩
      · have H := Lib.hid (show fitsB k d n = false by unfold fitsB; rw [hd, hd2, decide_eq_false h2]; rfl)
        have h3 : ((d.size : Int) == 256) = false := beq_eq_false_iff_ne.2 (by omega)
        go_enter Tryz.func78, Tryz.ntmps78
        go_wp2
        go_ret
        exact ⟨by rw [H.out]; rfl, g0⟩
    · have hd2 : decide (k < (n : Int)) = false := decide_eq_false (by omega)
      have H := Lib.hid (show fitsB k d n = false by unfold fitsB; rw [hd, hd2]; rfl)
      go_enter Tryz.func78, Tryz.ntmps78
      go_wp2
      go_ret
      exact ⟨by rw [H.out]; rfl, g0⟩
def CutGot (w : World) (d : ByteArray) (a : Int) (had : ByteArray) (e : Ending) (w' : World) : Prop := e = .returned (.string (cutS d a had)) ∧ w.grownBy w' none
set_option maxRecDepth 100000 in
set_option maxHeartbeats 1000000 in
theorem cut_any (d : ByteArray) (a : Int) (had : ByteArray) (w : World) (hd : d.size = 256) (hh : had.size = 256) (h1 : -9223372036854775808 ≤ a) (h2 : a ≤ 9223372036854775807) : Calls Tryz.prog 79 #[.string d, .int .i64 a, .string had] w (CutGot w d a had) := by
  obtain ⟨m, hm⟩ : ∃ m, clampN a = m := ⟨_, rfl⟩
  have hmb := clampN_le a
  have HC : Hid (CutGot w d a had = fun e w' => e = .returned (.string (d.extract 0 m ++ had.extract m 256)) ∧ w.grownBy w' none) := by
    unfold CutGot cutS; rw [hm]; rfl
  rw [hm] at hmb
  rw [HC.out]
  have hs1 : (d.extract 0 m).size = m := by simp; omega
  have hs2 : (had.extract m 256).size = 256 - m := by simp; omega
  have hcat : (9223372036854775807 < (d.extract 0 m).size + (had.extract m 256).size) = False := by rw [hs1, hs2]; simp; omega
  rcases Int.lt_or_le a 0 with h | h
  · have : m = 0 := by rw [← hm]; unfold clampN; omega
    subst this
    clear hm
    go_enter Tryz.func79, Tryz.ntmps79
    go_wp2_with fail
    go_quiet (fail)
    go_wp2
    go_ret
    first | exact ⟨rfl, gb_drewN _ _ _⟩ | exact ⟨by simp, gb_drewN _ _ _⟩
  · rcases Int.lt_or_le 256 a with h3 | h3
    · have : m = 256 := by rw [← hm]; unfold clampN; omega
      subst this
      clear hm
      go_enter Tryz.func79, Tryz.ntmps79
      go_wp2_with fail
      go_quiet (fail)
      go_wp2
      go_ret
      first | exact ⟨rfl, gb_drewN _ _ _⟩ | exact ⟨by simp, gb_drewN _ _ _⟩
    · obtain ⟨an, rfl⟩ := Int.eq_ofNat_of_zero_le h
      have : m = an := by rw [← hm]; unfold clampN; omega
      subst this
      clear hm
      rcases Nat.lt_or_ge m 256 with h5 | h5
      · rcases Nat.eq_zero_or_pos m with h6 | h6
        · subst h6
          go_enter Tryz.func79, Tryz.ntmps79
          go_wp2_with fail
          go_quiet (fail)
          go_wp2
          go_ret
          first | exact ⟨rfl, gb_drewN _ _ _⟩ | exact ⟨by simp, gb_drewN _ _ _⟩
        · have h7 : (m : Int) ≤ 256 := by omega
          have h8 : (m : Int) < 256 := by omega
          have h9 : (0 : Int) ≤ (m : Int) := by omega
          have h10 : (0 : Int) < (m : Int) := by omega
          have h11 : IntKind.i64.wrap (m : Int) = (m : Int) := IntWalk.i64_in _ (by omega)
          go_enter Tryz.func79, Tryz.ntmps79
          go_wp2_with fail
          go_quiet (fail)
          go_wp2
          go_ret
          first | exact ⟨rfl, gb_drewN _ _ _⟩ | exact ⟨by simp, gb_drewN _ _ _⟩
      · obtain rfl : m = 256 := by omega
        go_enter Tryz.func79, Tryz.ntmps79
        go_wp2_with fail
        go_quiet (fail)
        go_wp2
        go_ret
        first | exact ⟨rfl, gb_drewN _ _ _⟩ | exact ⟨by simp, gb_drewN _ _ _⟩
end Go.Proofs.YtjbfooaembpdfaaGreatDoor.D5
