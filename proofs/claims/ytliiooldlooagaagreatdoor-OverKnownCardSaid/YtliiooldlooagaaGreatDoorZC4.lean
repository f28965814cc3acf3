/-
  Texts of one layer, one behind the other, each with its own sentence; conditions: those that each law states.
-/
import Derived.RangeFuncNested
import Derived.RangeFuncBound
import Derived.RangeFuncCalls
import Derived.RangeFuncLeaves
import Derived.RangeFuncBox
import Derived.Shelf.Abstract
import Derived.Shelf.RegionOpen
import Derived.WalkKit
import Derived.OwnWalkIn
import Derived.TacticsInMore
import Derived.LoopNIn
import Derived.LoopIn
import Derived.Test.YtliiooldlooagaaGreatDoorZC3
set_option linter.unusedSimpArgs false
set_option linter.unusedVariables false

/-
  The rows into which package sum cuts a text: its iterator's contract, over this seat's translation; conditions: the text's length is within the reach.
-/
namespace Go.Proofs.YtliiooldlooagaaGreatDoor.C7
open Go.RowKit Go.Shelf
attribute [local go_sem] Oper.semAt_some

/-- A row: 4096 bytes at most. -/
abbrev Piece := { x : ByteArray // x.size ≤ 4096 }
def cat (l : List Piece) : List UInt8 := (l.map fun x => x.1.data.toList).flatten
theorem cat_snoc (l : List Piece) (x : Piece) : cat (l ++ [x]) = cat l ++ x.1.data.toList := by simp [cat]
theorem extract_list (s : ByteArray) (a b : Nat) : (s.extract a b).data.toList = (s.data.toList.take b).drop a := by
  simp [ByteArray.extract, ByteArray.copySlice, List.drop_take]
theorem take_more (l : List UInt8) (a b : Nat) (h : a ≤ b) : l.take a ++ (l.take b).drop a = l.take b := by
  have := List.take_append_drop a (l.take b)
  rw [List.take_take, Nat.min_eq_left h] at this
  exact this
/-- A round keeps what this one cell holds. -/
def SameCell (B : Nat) (W W' : World) : Prop := ∀ v, W.cell? ⟨B, 0, none⟩ = some v → W'.cell? ⟨B, 0, none⟩ = some v
theorem same_t {B : Nat} {X Y Z : World} (h : SameCell B X Y) (k : SameCell B Y Z) : SameCell B X Z := fun v hv => k v (h v hv)
theorem same_b {B : Nat} {w : World} (W : World) (l : Nat) (o o' : Obj) (_ : w.heap.size ≤ l) (h : W.heap[l]? = some o) (ho : o.isCells = false) (_ : o.isWalk = false) : SameCell B W (W.putObj l o') :=
  fun _ hv => cell_kept hv (grownBy_putObj' W l o') (fun r e => by cases e; exact ⟨o, h, ho⟩)
set_option maxRecDepth 100000 in
set_option maxHeartbeats 1000000 in
theorem rows1_in (F : Fence) (n : Nat) (h6 : F.fn 165) (hro : F.round = none) (hn : 1 ≤ n) (l Bn : Nat) (s : ByteArray) (hs : s.size ≤ 140737488351232) (J Jx : List Piece → World → Prop)
    (hY : ∀ pre x W, J pre W → pre.length < s.size + 1 → YieldAt F (n - 1) Tryz.prog l #[.string x.1] W fun e W' =>
      (e = .returned (.bool true) ∧ J (pre ++ [x]) W' ∧ SameCell Bn W W') ∨ (e = .returned (.bool false) ∧ Jx (pre ++ [x]) W'))
    (W : World) (hBn : W.cell? ⟨Bn, 0, none⟩ = some (.string s)) (h0 : J [] W) :
    CallsIn F n Tryz.prog 165 #[.func (.yield l) #[] #[], .pointer (some ⟨Bn, 0, none⟩)] W fun e W' => (∃ v, e = .returned v) ∧
      ((∃ ys, cat ys = s.data.toList ∧ J ys W') ∨ (∃ pre, True ∧ Jx pre W')) := by
  refine callsIn_of_wp Tryz.func165 rfl h6 ?_ hro
  simp only [Tryz.ntmps165, List.size_toArray, List.length_cons, List.length_nil, Nat.reduceAdd, Nat.reduceSub, Array.replicate_succ, Array.replicate_zero, List.push_toArray, List.append_toArray, List.nil_append, List.cons_append]
  gi_wp2
  gi_loopw [3] (fun i wr => ∃ (k : Nat) (pre : List Piece), i = .int .i64 (k : Nat) ∧ k = pre.length * 4096 ∧ k ≤ s.size + 4096 ∧ cat pre = s.data.toList.take k ∧ wr.cell? ⟨Bn, 0, none⟩ = some (.string s) ∧ J pre wr)
    (fun i _ => s.size + 8192 - (intOf i).toNat)
  case atStart =>
    exact ⟨0, [], rfl, rfl, by omega, by simp [cat], hBn, h0⟩
  case round =>
    obtain ⟨k, pre, rfl, hk0, hk2, hc0, hcell, hJs⟩ := hrel
    have hkl : pre.length ≤ k := by omega
    have hk := Lib.hid hk0
    have hc := Lib.hid hc0
    clear hk0 hc0
    by_cases hlt : k < s.size
    · by_cases hfit : k + 4096 ≤ s.size
      · obtain ⟨fn, tmps, assign, body, hy, hR⟩ := hY pre ⟨s.extract k (k + 4096), by simp; omega⟩ wr hJs (by omega)
        dsimp only at hy
        gi_wp2
        refine hR.mono ?_
        rintro e W3 (⟨rfl, hJ3, hk3⟩ | ⟨rfl, hJx3⟩)
        · have hcell3 : W3.cell? ⟨Bn, 0, none⟩ = some (.string s) := hk3 _ hcell
          gi_wp2
          go_roundw
          case rel => exact ⟨k + 4096, _, by go_num, by simp only [List.length_append, List.length_cons, List.length_nil]; have := hk.out; omega, by omega, by rw [cat_snoc, hc.out]; exact by rw [extract_list, take_more _ _ _ (by omega)], hcell3, hJ3⟩
          case measure => simp [intOf]; omega
        · gi_wp2
          refine bodyPost_ret (results_none rfl _ _ _) rfl ?_
          exact ⟨⟨_, rfl⟩, .inr ⟨_, trivial, hJx3⟩⟩
      · obtain ⟨fn, tmps, assign, body, hy, hR⟩ := hY pre ⟨s.extract k (s.size), by simp; omega⟩ wr hJs (by omega)
        dsimp only at hy
        gi_wp2
        refine hR.mono ?_
        rintro e W3 (⟨rfl, hJ3, hk3⟩ | ⟨rfl, hJx3⟩)
        · have hcell3 : W3.cell? ⟨Bn, 0, none⟩ = some (.string s) := hk3 _ hcell
          gi_wp2
          go_roundw
          case rel => exact ⟨k + 4096, _, by go_num, by simp only [List.length_append, List.length_cons, List.length_nil]; have := hk.out; omega, by omega, by rw [cat_snoc, hc.out]; exact by rw [extract_list, take_more _ _ _ (by omega), List.take_of_length_le (by simp), List.take_of_length_le (by simp; omega)], hcell3, hJ3⟩
          case measure => simp [intOf]; omega
        · gi_wp2
          refine bodyPost_ret (results_none rfl _ _ _) rfl ?_
          exact ⟨⟨_, rfl⟩, .inr ⟨_, trivial, hJx3⟩⟩
    · gi_wp2
      go_end0
      exact ⟨⟨_, rfl⟩, .inl ⟨pre, by rw [hc.out]; exact List.take_of_length_le (by simp; omega), hJs⟩⟩

/-- What the closure hands over: all rows in their order; or a beginning of them. -/
theorem rows_stops (F : Fence) (n : Nat) (h6 : F.fn 165) (hro : F.round = none) (hn : 1 ≤ n) (Bn : Nat) (s : ByteArray) (hs : s.size ≤ 140737488351232) (w : World) (hBn : Bn < w.heap.size)
    (hc : w.cell? ⟨Bn, 0, none⟩ = some (.string s)) :
    SeqStopsK F n Tryz.prog 165 #[.pointer (some ⟨Bn, 0, none⟩)] (fun x : Piece => #[Value.string x.1]) (SameCell Bn) (fun ys => cat ys = s.data.toList) (fun _ => True) (s.size + 1) w := fun l J Jx W hW _ _ hY h0 =>
  rows1_in F n h6 hro hn l Bn s hs J Jx hY W ((hW.cell (p := ⟨Bn, 0, none⟩) hBn).trans hc) h0
end Go.Proofs.YtliiooldlooagaaGreatDoor.C7

/-
  What sum.More, sum.Of and sum.Joined tell, for every number and text, over this seat's translation; conditions: the numbers fit, the text's length is within the reach.
-/
namespace Go.Proofs.YtliiooldlooagaaGreatDoor.C7
open Go.RowKit Go.Shelf
attribute [local go_sem] Oper.semAt_some
/-- Two boxes of the call's own, behind each other, hold the halves. -/
def Two (B : Nat) (W : World) (x y : Nat) : Prop :=
  W.cell? ⟨B, 0, none⟩ = some (.int .u64 (x : Nat)) ∧ W.frozen? ⟨B, 0, none⟩ = false ∧ W.cell? ⟨B + 1, 0, none⟩ = some (.int .u64 (y : Nat)) ∧ W.frozen? ⟨B + 1, 0, none⟩ = false
theorem two_own {α : Type} (B : Nat) (f : α → Nat × Nat) : Own (fun (pre : α) W => Two B W (f pre).1 (f pre).2) :=
  fun _ _ _ _ hs hg hr => ⟨cell_kept hs.1 hg hr, (frozen_kept hs.1 hg hr).trans hs.2.1, cell_kept hs.2.2.1 hg hr, (frozen_kept hs.2.2.1 hg hr).trans hs.2.2.2⟩

theorem two_set {B x y : Nat} {W : World} (h : Two B W x y) (x' y' : Nat) {u v : Int} (hu : u = (x' : Nat)) (hv : v = (y' : Nat)) :
    Two B ((W.setCell ⟨B, 0, none⟩ (.int .u64 u)).setCell ⟨B + 1, 0, none⟩ (.int .u64 v)).drew x' y' := by
  obtain ⟨h1, h2, h3, h4⟩ := h
  subst hu hv
  refine ⟨?_, ?_, ?_, ?_⟩
  · rw [cell_drew_own, World.cell?_setCell_other _ _ _ _ (by simp)]
    exact World.cell?_setCell_same' _ _ _ (by rw [h1]; rfl)
  · rw [frozen_drew_own, World.frozen?_setCell, World.frozen?_setCell]; exact h2
  · rw [cell_drew_own]; exact World.cell?_setCell_same' _ _ _ (by rw [World.cell?_setCell_other _ _ _ _ (by simp), h3]; rfl)
  · rw [frozen_drew_own, World.frozen?_setCell, World.frozen?_setCell]; exact h4
theorem keeps_set2 {V W : World} (h : KeepsOthers V W) (p q : Addr) (u v : Value) : KeepsOthers V ((W.setCell p u).setCell q v).drew :=
  ((h.trans (KeepsOthers.setCell _ _ _)).trans (KeepsOthers.setCell _ _ _)).trans (KeepsOthers.drew _)
theorem same_set2 {B : Nat} {V W : World} (h : SameCell (B + 1 + 1) V W) (u v : Value) : SameCell (B + 1 + 1) V ((W.setCell ⟨B, 0, none⟩ u).setCell ⟨B + 1, 0, none⟩ v).drew := fun x hx => by
  rw [cell_drew_own, World.cell?_setCell_other _ _ _ _ (fun e => by injection e with e; omega), World.cell?_setCell_other _ _ _ _ (fun e => by injection e with e; omega)]; exact h x hx
theorem below_set2 {n : Nat} {V W : World} (h : Below n V W) (u v : Value) : Below n V ((W.setCell ⟨n, 0, none⟩ u).setCell ⟨n + 1, 0, none⟩ v).drew :=
  ((h.setCell (p := ⟨n, 0, none⟩) (Nat.le_refl _) _).setCell (p := ⟨n + 1, 0, none⟩) (by simp) _).drew

set_option maxRecDepth 100000 in
set_option maxHeartbeats 2000000 in
theorem more_any (m : Nat) (s : ByteArray) (w : World) (hm : m < 4294967296) (hs : s.size ≤ 140737488351232) :
    Calls Tryz.prog 145 #[.int .u32 m, .string s] w fun e w' => e = .returned (.int .u32 (moreN m s.data.toList : Nat)) ∧ Below w.heap.size w w' := by
  refine (callsIn_wide (n := 5)).1 ?_
  refine callsIn_of_wp_marks Tryz.func145 rfl trivial ?_ rfl
  simp only [Tryz.ntmps145, List.size_toArray, List.length_cons, List.length_nil, Nat.reduceAdd, Nat.reduceSub, Array.replicate_succ, Array.replicate_zero, List.push_toArray, List.append_toArray, List.nil_append, List.cons_append]
  gi_wp2_with (refine ⟨trivial, ?_⟩; first
    | (gi_at_call 154; first | ((with_reducible refine (callsIn_wide.2 (half_lo m _ hm)).mono ?_); rintro e w' ⟨rfl, rfl⟩) | ((with_reducible refine (callsIn_wide.2 (half_hi m _ hm)).mono ?_); rintro e w' ⟨rfl, rfl⟩))
    | (gi_at_call 155; (with_reducible refine (callsIn_wide.2 (rows_any s _)).mono ?_); rintro e w' ⟨rfl, rfl⟩))
  have hl0 := halves_lt m
  have hB0 : Below w.heap.size w (((w.alloc (.cells #[.int .u64 ((halves m).1 : Nat)] 76)).alloc (.cells #[.int .u64 ((halves m).2 : Nat)] 76)).alloc (.cells #[.string s] 9)) :=
    (((Below.refl _ w).alloc (Nat.le_refl _) _).alloc (by simp) _).alloc (by simp; omega) _
  have b1 := ((Boxed.new w 76 (.int .u64 ((halves m).1 : Nat))).alloc (.cells #[.int .u64 ((halves m).2 : Nat)] 76)).alloc (.cells #[.string s] 9)
  have b2 := (Boxed.new (w.alloc (.cells #[.int .u64 ((halves m).1 : Nat)] 76)) 76 (.int .u64 ((halves m).2 : Nat))).alloc (.cells #[.string s] 9)
  have b3 := Boxed.new ((w.alloc (.cells #[.int .u64 ((halves m).1 : Nat)] 76)).alloc (.cells #[.int .u64 ((halves m).2 : Nat)] 76)) 9 (.string s)
  simp only [World.size_alloc] at b2 b3
  have hsz : (((w.alloc (.cells #[.int .u64 ((halves m).1 : Nat)] 76)).alloc (.cells #[.int .u64 ((halves m).2 : Nat)] 76)).alloc (.cells #[.string s] 9)).heap.size = w.heap.size + 3 := by simp
  generalize ((w.alloc (.cells #[.int .u64 ((halves m).1 : Nat)] 76)).alloc (.cells #[.int .u64 ((halves m).2 : Nat)] 76)).alloc (.cells #[.string s] 9) = W0 at hB0 b1 b2 b3 hsz ⊢
  refine wpIn_rangeFunc_ownF rfl (by omega) (gf := 165) (lb := #[.pointer (some ⟨w.heap.size + 1 + 1, 0, none⟩)]) rfl trivial (enters_of Tryz.func165 (by kernel_rfl) rfl)
    (rows_stops Fence.wide _ trivial rfl (by omega) (w.heap.size + 1 + 1) s hs W0 (by omega) b3.cell) same_t same_b (Below.refl _ _) (fun _ => rfl)
    (fun pre W => Two w.heap.size W (sfold (halves m) (cat pre)).1 (sfold (halves m) (cat pre)).2 ∧ Below w.heap.size w W)
    (fun _ _ _ => False)
    (OwnFrom.and (Own.from (two_own w.heap.size (fun pre => sfold (halves m) (cat pre))) _) (ownFrom_below (Nat.le_refl _) (by omega)))
    (fun _ _ _ _ _ hs _ _ => hs)
    ⟨⟨b1.cell, b1.frozen, b2.cell, b2.frozen⟩, hB0⟩
    (fun x => { tmps := #[.int .u32 (m : Nat), .string s, undef, undef, .int .u32 0, .func (.func 154) #[.int .u32 (m : Nat)] #[], .pointer (some ⟨w.heap.size, 0, none⟩), .pointer (some ⟨w.heap.size + 1, 0, none⟩), .string x.1, undef, .int .u32 (m : Nat), .func (.func 154) #[.int .u32 (m : Nat)] #[], .func (.func 154) #[.int .u32 (m : Nat)] #[], .int .u64 ((halves m).1 : Nat), .func (.func 154) #[.int .u32 (m : Nat)] #[], .int .u64 ((halves m).2 : Nat), .string s, .func (.func 165) #[] #[.pointer (some ⟨w.heap.size + 1 + 1, 0, none⟩)], .string x.1, undef, undef, undef, undef, undef, undef, undef, undef, undef, undef, undef, undef, undef, undef, undef, undef, undef, undef, undef, undef, undef, undef], defers := [] }) ?assign ?body ?done ?stop
  case assign =>
    intro l x W K hK
    gi_wp2
    exact hK
  case body =>
    rintro l pre x W ⟨hT, hB⟩ _
    obtain ⟨xs, hxs⟩ := x
    have hp0 := sfold_lt (cat pre) (halves m) hl0.1 hl0.2
    have hcat := Lib.hid (cat_snoc pre ⟨xs, hxs⟩)
    generalize hpp : sfold (halves m) (cat pre) = p at hT hp0
    have Hp := Lib.hid hpp
    clear hpp
    have hd : 1 ≤ 5 - 1 - 1 := by omega
    have hmx : Tryz.prog.follows .mixedOrders = true := by kernel_rfl
    gi_wp2
    gi_loopw [9, 21] (fun _ i wr => ∃ k : Nat, k ≤ xs.size ∧ i = .int .i64 k ∧ Two w.heap.size wr (rfold p (xs.data.toList.take k)).1 (rfold p (xs.data.toList.take k)).2 ∧ KeepsOthers W wr ∧ SameCell (w.heap.size + 1 + 1) W wr ∧ Below w.heap.size w wr)
      (fun _ i _ => xs.size - (intOf i).toNat)
    case atStart => exact ⟨0, by omega, rfl, hT, KeepsOthers.refl _, fun _ h => h, hB⟩
    case round =>
      obtain ⟨k, hk, rfl, hT1, hK1, hS1, hB1⟩ := hrel
      have hbd := rfold_le p (xs.data.toList.take k) hp0.1 hp0.2 (by simp only [List.length_take]; omega)
      by_cases hlt : k < xs.size
      · have HS := Lib.hid (show rfold p (xs.data.toList.take (k + 1)) = rstep (rfold p (xs.data.toList.take k)) xs[k] by rw [take_snocB xs k hlt, rfold_snoc])
        have hb : xs[k].toNat < 256 := xs[k].toNat_lt
        generalize rfold p (xs.data.toList.take k) = q at *
        obtain ⟨a, b⟩ := q
        simp only at hbd hT1
        obtain ⟨hc1, hf1, hc2, hf2⟩ := hT1
        clear hl0 hp0 hB0 b1 b2 b3
        have hw1 : IntKind.u64.wrap (xs[k].toNat : Int) = (xs[k].toNat : Int) := u64_small _ (by omega)
        have hw2 : IntKind.u64.wrap ((a : Int) + (xs[k].toNat : Int)) = (a : Int) + (xs[k].toNat : Int) := by rw [show (a : Int) + (xs[k].toNat : Int) = ((a + xs[k].toNat : Nat) : Int) from by omega]; exact u64_small _ (by omega)
        gi_wp2
        gi_region_with_o fail
        all_goals clear hw1 hw2
        all_goals gi_wp2
        all_goals
          go_roundw
          case rel => exact ⟨k + 1, by omega, by go_num, by rw [HS.out]; exact two_set ⟨hc1, hf1, hc2, hf2⟩ _ _ (by simp only [rstep]; omega) (by simp only [rstep]; omega), keeps_set2 hK1 _ _ _ _, same_set2 hS1 _ _, below_set2 hB1 _ _⟩
          case measure => simp [intOf]; omega
      · have e : xs.data.toList.take k = xs.data.toList := List.take_of_length_le (by simp; omega)
        rw [e] at hT1 hbd
        have hrow := Lib.hid (sfold_row p xs.data.toList hp0.1 hp0.2)
        generalize rfold p xs.data.toList = q at *
        obtain ⟨a, b⟩ := q
        simp only at hbd hT1
        have hT2 := hT1
        obtain ⟨hc1, hf1, hc2, hf2⟩ := hT1
        clear hl0 hp0 hB0 b1 b2 b3 e
        gi_wp2
        gi_region_with_o fail
        all_goals gi_wp2
        all_goals
          refine ⟨keeps_set2 hK1 _ _ _ _, same_set2 hS1 _ _, ?_, below_set2 hB1 _ _⟩
          have hfin : sfold (halves m) (cat (pre ++ [⟨xs, hxs⟩])) = left2 (a, b) := by rw [hcat.out, sfold_append, Hp.out]; exact hrow.out
          rw [hfin]
          exact two_set hT2 _ _ (Int.ofNat_tmod _ _).symm (Int.ofNat_tmod _ _).symm
  case done =>
    rintro D ys W hD hys ⟨hT, hB⟩ hK
    have hfin := Lib.hid (show moreN m s.data.toList = packed (sfold (halves m) (cat ys)) by rw [hys]; rfl)
    have hp := sfold_lt (cat ys) (halves m) hl0.1 hl0.2
    generalize sfold (halves m) (cat ys) = p at *
    obtain ⟨a, b⟩ := p
    simp only at hp hT
    obtain ⟨hc1, hf1, hc2, hf2⟩ := hT
    clear hys hl0 b1 b2 b3 hB0
    gi_wp2_with (refine ⟨trivial, ?_⟩; gi_at_call 156; (with_reducible refine (callsIn_wide.2 (joint_any a b _ (by omega) (by omega))).mono ?_); rintro e w' ⟨rfl, rfl⟩)
    refine ⟨by simp, .inl ⟨_, _, rfl, run_takeDeferred hK, ?_⟩⟩
    exact ⟨_, results_tmp rfl _ _ _, by rw [hfin.out, left_of_lt (p := (a, b)) hp.1 hp.2]; rfl, hB.trans (belowK_b (w := w) (Nat.le_refl _) W D _ _ (by omega) hK rfl rfl)⟩
  case stop =>
    rintro D c pre W _ _ h _
    exact h.elim
theorem of_any (s : ByteArray) (w : World) (hs : s.size ≤ 140737488351232) :
    Calls Tryz.prog 131 #[.string s] w fun e w' => e = .returned (.int .u32 (moreN 1 s.data.toList : Nat)) ∧ Below w.heap.size w w' := by
  go_enter Tryz.func131, Tryz.ntmps131
  go_wp2_with (go_at_call 145; refine (more_any 1 s _ (by omega) hs).mono ?_; rintro e w' ⟨rfl, hb⟩)
  go_ret
  exact ⟨rfl, hb⟩
end Go.Proofs.YtliiooldlooagaaGreatDoor.C7
