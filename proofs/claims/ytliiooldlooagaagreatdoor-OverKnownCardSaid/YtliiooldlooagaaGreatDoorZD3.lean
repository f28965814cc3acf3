/-
  Texts of one layer, one behind the other, each with its own sentence; conditions: those that each law states.
-/
import Derived.RangeFuncNested
import Derived.RangeFuncBound
import Derived.RangeFuncCalls
import Derived.RangeFuncLeaves
import Derived.RangeFuncBox
import Derived.Shelf.Abstract
import Derived.Shelf.RegionOpen
import Derived.OwnWalkIn
import Derived.TacticsInMore
import Derived.LoopNIn
import Derived.LoopIn
import Derived.Laws.Rows
import Derived.Test.YtliiooldlooagaaGreatDoorZD2
import Derived.Test.YtliiooldlooagaaGreatDoorZROOT2
set_option linter.unusedSimpArgs false
set_option linter.unusedVariables false

/-
  The iterator through the writes that came (fate.arrived): its contract, over this seat's translation; conditions: the list's cells lie below the caller's own blocks.
-/
namespace Go.Proofs.YtliiooldlooagaaGreatDoor.D5
open Go.RowKit Go.Shelf
attribute [local go_sem] Oper.semAt_some

/-- A write that came, by its number, and how many came ahead of it. -/
abbrev Came (l : List Bool) := { x : Nat × Nat // x.2 < l.length ∧ l.getD x.2 false = true ∧ x.1 = (cameTo l x.2).length }
/-- A round keeps all cells below a bound. -/
def Kept (N : Nat) (W W' : World) : Prop := ∀ (p : Addr) v, p.block < N → W.cell? p = some v → W'.cell? p = some v
theorem kept_t {N : Nat} {X Y Z : World} (h : Kept N X Y) (k : Kept N Y Z) : Kept N X Z := fun p v hp hv => k p v hp (h p v hp hv)
theorem kept_refl (N : Nat) (X : World) : Kept N X X := fun _ _ _ h => h
theorem kept_b {N : Nat} {w : World} (W : World) (l : Nat) (o o' : Obj) (_ : w.heap.size ≤ l) (h : W.heap[l]? = some o) (ho : o.isCells = false) (_ : o.isWalk = false) : Kept N W (W.putObj l o') :=
  fun _ _ _ hv => cell_kept hv (grownBy_putObj' W l o') (fun r e => by cases e; exact ⟨o, h, ho⟩)
theorem kept_below {N : Nat} {W W' : World} (h : Below N W W') : Kept N W W' := fun p v hp hv => by
  rw [h.cell hp]; exact hv
theorem add_block (a : Addr) (k : Nat) : (a.add k).block = a.block := by
  unfold Addr.add; split <;> rfl
end Go.Proofs.YtliiooldlooagaaGreatDoor.D5

/-
  How many writes came (fate.count), over this seat's translation; conditions: the slice reads as a list of bools.
-/
namespace Go.Proofs.YtliiooldlooagaaGreatDoor.D5
open Go.RowKit Go.Shelf
attribute [local go_sem] Oper.semAt_some

theorem blk_own {β : Type} (N B : Nat) (t : TypeId) (f : β → Array Value) : OwnFrom N (fun s W => Blk W B t (f s)) := by
  intro s W W' row h g hr
  refine Blk.keep h g ?_
  intro e
  obtain ⟨_, o, ho, hc⟩ := hr B e.symm
  unfold Blk at h
  rw [h] at ho; cases ho; cases hc
theorem came_len (b : List Bool) (ys : List (Came b)) (h : ys.map (fun x => x.1.2) = cameTo b b.length) : ys.length = (cameTo b b.length).length := by rw [← h, List.length_map]
theorem came_le (b : List Bool) (pre : List (Came b)) (k : Nat) (hk : k ≤ b.length) (h : pre.map (fun x => x.1.2) = cameTo b k) : pre.length ≤ b.length := by
  have := cameTo_le b k
  rw [← h, List.length_map] at this; omega
/-- What a slice of bools gives an iterator over it. -/
theorem bls_parts {w : World} {v : Value} {b : List Bool} (h : Bls w v b) : ∃ (ao : Option Addr) (cap : Nat), v = .slice ao b.length cap ∧ (ao = none → b.length = 0) ∧ (∀ a, ao = some a → ∀ j u, (bools b)[j]? = some u → w.cell? (a.add j) = some u) := by
  obtain ⟨ao, cap, h1, _, _, h4, h5⟩ := h
  exact ⟨ao, cap, h1, fun e => (h4 e).1, h5⟩
theorem _root_.Go.Proofs.YtliiooldlooagaaGreatDoor.Bls.keep0 {w w' : World} {v : Value} {b : List Bool} (h : Bls w v b) (g : w.grownBy w' none) : Bls w' v b := Sl.keep0 h g
theorem _root_.Go.Proofs.YtliiooldlooagaaGreatDoor.Bts.keep0 {w w' : World} {v : Value} {b : List UInt8} (h : Bts w v b) (g : w.grownBy w' none) : Bts w' v b := Sl.keep0 h g
theorem add_zero (a : Addr) : a.add 0 = a := by unfold Addr.add; exact if_pos rfl
theorem gb_fill {w w1 : World} {B : Nat} (h : w.grownBy w1 none) (hB : w.heap.size ≤ B) (x' y' z' : Value) : w.grownBy (((w1.setCell ⟨B, 0, none⟩ x').setCell ⟨B, 1, none⟩ y').setCell ⟨B, 2, none⟩ z') none :=
  gb_step (gb_step (gb_step h (gb_set _ _ _ _ _) hB) (gb_set _ _ _ _ _) hB) (gb_set _ _ _ _ _) hB
theorem cell_lt {w : World} {p : Addr} {v : Value} (h : w.cell? p = some v) : p.block < w.heap.size := by
  rcases Nat.lt_or_ge p.block w.heap.size with h1 | h1
  · exact h1
  · simp [World.cell?, Array.getElem?_eq_none h1] at h
theorem low_of {w : World} {ao : Option Addr} {b : List Bool} (h : ∀ a, ao = some a → ∀ j u, (bools b)[j]? = some u → w.cell? (a.add j) = some u) (a : Addr) (e : ao = some a) (hp : 0 < b.length) : a.block < w.heap.size := by
  have := cell_lt (h a e 0 _ (bools_at hp))
  rwa [add_block] at this
end Go.Proofs.YtliiooldlooagaaGreatDoor.D5

/-
  The torn write of a fate (fate.torn), over this seat's translation; conditions: the slices read as lists, the tail has three bytes.
-/
namespace Go.Proofs.YtliiooldlooagaaGreatDoor.D5
open Go.RowKit Go.Shelf
attribute [local go_sem] Oper.semAt_some

theorem bits_or16 (a b : Nat) (ha : a < 256) (hb : b < 256) : bits BinOp.or IntKind.i64 ((a : Int) * 256) (b : Int) = ((256 * a + b : Nat) : Int) := by
  have e : bits BinOp.or IntKind.i64 ((a : Int) * 256) (b : Int) = IntKind.i64.wrap ((BitVec.ofInt 64 ((a : Int) * 256) ||| BitVec.ofInt 64 (b : Int)).toNat) := rfl
  rw [e, BitVec.toNat_or]
  have h1 : (BitVec.ofInt 64 ((a : Int) * 256)).toNat = 2 ^ 8 * a := by simp [BitVec.toNat_ofInt]; omega
  have h2 : (BitVec.ofInt 64 (b : Int)).toNat = b := by simp; omega
  rw [h1, h2, ← Nat.two_pow_add_eq_or_of_lt (by omega : b < 2 ^ 8)]
  rw [show 2 ^ 8 * a + b = 256 * a + b by omega]
  simp only [IntKind.wrap, IntKind.bits, IntKind.signed]; simp; omega
theorem came_index (b : List Bool) (n j i : Nat) (h : (cameTo b n)[j]? = some i) : i < n ∧ b.getD i false = true ∧ (cameTo b i).length = j := by
  induction n with
  | zero => simp [cameTo] at h
  | succ n ih =>
    cases hb : b.getD n false with
    | false => rw [cameTo_no hb] at h; obtain ⟨h1, h2, h3⟩ := ih h; exact ⟨by omega, h2, h3⟩
    | true =>
      rw [cameTo_yes hb] at h
      rcases Nat.lt_or_ge j (cameTo b n).length with hj | hj
      · rw [List.getElem?_append_left hj] at h; obtain ⟨h1, h2, h3⟩ := ih h; exact ⟨by omega, h2, h3⟩
      · rw [List.getElem?_append_right hj] at h
        have hl := (List.getElem?_eq_some_iff.1 h).1
        simp at hl
        have : j - (cameTo b n).length = 0 := by omega
        rw [this] at h
        obtain rfl : n = i := by simpa using h
        exact ⟨by omega, hb, by omega⟩
theorem came_get (b : List Bool) (n i : Nat) (hi : i < n) (h : b.getD i false = true) : (cameTo b n)[(cameTo b i).length]? = some i := by
  induction n with
  | zero => omega
  | succ n ih =>
    have hlt : ∀ m, i < m → (cameTo b i).length < (cameTo b m).length := by
      intro m hm
      induction m with
      | zero => omega
      | succ m ihm =>
        by_cases e : i = m
        · subst e; rw [cameTo_yes h]; simp
        · have := ihm (by omega)
          cases hb : b.getD m false with
          | false => rw [cameTo_no hb]; exact this
          | true => rw [cameTo_yes hb, List.length_append]; omega
    by_cases e : i = n
    · subst e; rw [cameTo_yes h]; simp
    · have h1 := ih (by omega)
      cases hb : b.getD n false with
      | false => rw [cameTo_no hb]; exact h1
      | true => rw [cameTo_yes hb, List.getElem?_append_left (hlt n (by omega))]; exact h1
theorem heap_fill (B D : Nat) (h : D ≠ B) (W : World) (x y z : Value) : (((W.setCell ⟨B, 0, none⟩ x).setCell ⟨B, 1, none⟩ y).setCell ⟨B, 2, none⟩ z).heap[D]? = W.heap[D]? :=
  (Below.heap_setCell _ ⟨B, 2, none⟩ z D h).trans ((Below.heap_setCell _ ⟨B, 1, none⟩ y D h).trans (Below.heap_setCell _ ⟨B, 0, none⟩ x D h))
/-- The torn write, and its place, as a tail of bytes tells them. -/
def tornS (b : List Bool) (ts : List UInt8) : Bool := decide ((ts.getD 0 0).toNat < 128) && decide (0 < (cameTo b b.length).length)
def tornT (b : List Bool) (ts : List UInt8) : Int := if tornS b ts = true then (((cameTo b b.length).getD ((ts.getD 0 0).toNat % (cameTo b b.length).length) 0 : Nat) : Int) else -1
def atT (b : List Bool) (ts : List UInt8) : Int := if tornS b ts = true then (((256 * (ts.getD 1 0).toNat + (ts.getD 2 0).toNat) % 257 : Nat) : Int) else 0

def TornGot (w : World) (v : Value) (t a : Int) (e : Ending) (w' : World) : Prop := e = .returned (.agg #[v, .int .i64 t, .int .i64 a]) ∧ w.grownBy w' none
end Go.Proofs.YtliiooldlooagaaGreatDoor.D5

/-
  Which fate choices tell (fate.Read), and the whole one (fate.Whole), over this seat's translation; conditions: the table of masks reads as the program lays it, the numbers fit their kinds, the slice reads as a list of bytes.
-/
namespace Go.Proofs.YtliiooldlooagaaGreatDoor.D5
open Go.RowKit

/-- The first k set, the others not. -/
def firstF (f : Nat → Bool) (N k : Nat) : List Bool := (List.range N).map fun i => decide (i < k) && f i
theorem firstF_length (f : Nat → Bool) (N k : Nat) : (firstF f N k).length = N := by simp [firstF]
theorem firstF_zero (f : Nat → Bool) (N : Nat) : firstF f N 0 = List.replicate N false := by
  apply List.ext_getElem?; intro j; by_cases h : j < N <;> simp [firstF, h]
theorem firstF_all (f : Nat → Bool) (N : Nat) : firstF f N N = (List.range N).map f := by
  apply List.ext_getElem?; intro j; by_cases h : j < N <;> simp [firstF, h]
theorem firstF_set (f : Nat → Bool) (N k : Nat) : (bools (firstF f N k)).toArray.setIfInBounds k (.bool (f k)) = (bools (firstF f N (k + 1))).toArray := by
  apply Array.ext_getElem?
  intro j
  simp only [Array.getElem?_setIfInBounds, List.getElem?_toArray, bools, firstF, List.map_map, List.getElem?_map, List.size_toArray, List.length_map, List.length_range]
  by_cases hj : k = j
  · subst hj
    by_cases h : k < N <;> simp [h]
  · by_cases h : j < N
    · have : (decide (j < k + 1)) = decide (j < k) := by congr 1; apply propext; omega
      simp [hj, h, this]
    · simp [hj, h]
theorem add_lit (b j : Nat) : (⟨b, 0, none⟩ : Addr).add j = ⟨b, j, none⟩ := by
  unfold Addr.add; split
  · next h => rw [h]
  · simp
theorem firstF_at (f : Nat → Bool) (N k : Nat) (h : k < N) : (bools (firstF f N k)).toArray[k]? = some (.bool false) := by
  simp [bools, firstF, h]
theorem bls_of_blk {w : World} {b n : Nat} {l : List Bool} (h : Blk w b 4 (bools l).toArray) (hn : l.length = n) : Bls w (.slice (some ⟨b, 0, none⟩) n n) l := by
  subst hn
  refine ⟨some ⟨b, 0, none⟩, l.length, rfl, Nat.le_refl _, by simp [bools], (fun e => by cases e), ?_⟩
  intro a e j u hj
  cases e
  have := h.cell j (v := u) (by rw [List.getElem?_toArray]; exact hj)
  rw [show (⟨b, 0, none⟩ : Addr).add j = ⟨b, j, none⟩ from add_lit b j]; exact this
end Go.Proofs.YtliiooldlooagaaGreatDoor.D5

/-
  Which fate choices tell (fate.Read), over this seat's translation; conditions: the table of masks reads as the program lays it, the numbers fit their kinds, the slice reads as a list of bytes.
-/
namespace Go.Proofs.YtliiooldlooagaaGreatDoor.D5
open Go.RowKit

theorem add_add (a : Addr) (i j : Nat) : (a.add i).add j = a.add (i + j) := by
  unfold Addr.add
  by_cases hi : i = 0
  · subst hi; simp
  · by_cases hj : j = 0
    · subst hj; simp [hi]
    · simp [hi, hj, Nat.add_assoc]
/-- The bytes behind some first ones. -/
theorem bts_drop {w : World} {a : Addr} {cs : List UInt8} (h : ∀ j u, (bytesC cs)[j]? = some u → w.cell? (a.add j) = some u) (s : Nat) (ca : Nat) (hca : cs.length ≤ ca) : Bts w (.slice (some (a.add s)) (cs.length - s) (ca - s)) (cs.drop s) := by
  refine ⟨some (a.add s), ca - s, by simp, by simp; omega, by simp [bytesC], (fun e => by cases e), ?_⟩
  intro x e j u hj
  cases e
  rw [add_add]
  refine h (s + j) u ?_
  rw [← hj]; simp [bytesC, List.getElem?_drop]
theorem torn_link (cs : List UInt8) (N : Nat) (h : (N + 7) / 8 + 3 ≤ cs.length) : tornT (cameF cs N) (cs.drop ((N + 7) / 8)) = tornF cs N ∧ atT (cameF cs N) (cs.drop ((N + 7) / 8)) = atF cs N := by
  have hg : ∀ k, (cs.drop ((N + 7) / 8)).getD k 0 = cs.getD ((N + 7) / 8 + k) 0 := fun k => by simp [List.getD, List.getElem?_drop]
  have hS : tornS (cameF cs N) (cs.drop ((N + 7) / 8)) = tornB cs N := by
    unfold tornS tornB
    rw [hg, cameF_length, Nat.add_zero]
    simp [h]
  unfold tornT tornF atT atF
  rw [hS, hg, hg, hg, cameF_length, Nat.add_zero]
  exact ⟨rfl, rfl⟩
theorem torn_none (cs : List UInt8) (N : Nat) (h : ¬ (N + 7) / 8 + 3 ≤ cs.length) : tornF cs N = -1 ∧ atF cs N = 0 := by
  have hS : tornB cs N = false := by unfold tornB; simp [h]
  unfold tornF atF
  rw [hS]
  exact ⟨rfl, rfl⟩
end Go.Proofs.YtliiooldlooagaaGreatDoor.D5

/-
  Whether a fate may be (fate.mayBe, foyerref04.May), and how many came ahead of the torn write (fate.aheadOf), over this seat's translation; conditions: the slice reads as a list of bools.
-/
namespace Go.Proofs.YtliiooldlooagaaGreatDoor.D5
open Go.RowKit

/-- May a fate be? -/
def mayF (l : List Bool) (t a : Int) : Bool := if t = -1 then decide (a = 0) else decide (0 ≤ t) && (decide (t < (l.length : Int)) && (l.getD t.toNat false && (decide (0 ≤ a) && decide (a ≤ 256))))
theorem may_minus (l : List Bool) (a : Int) : mayF l (-1) a = decide (a = 0) := if_pos rfl
theorem may_low (l : List Bool) {t : Int} (a : Int) (h : t ≠ -1) (h1 : t < 0) : mayF l t a = false := by
  unfold mayF; rw [if_neg h, decide_eq_false (by omega)]; rfl
theorem may_high (l : List Bool) {t : Int} (a : Int) (h : 0 ≤ t) (h1 : (l.length : Int) ≤ t) : mayF l t a = false := by
  unfold mayF; rw [if_neg (by omega), decide_eq_false (p := t < _) (by omega)]; simp
theorem may_not (l : List Bool) (i : Nat) (a : Int) (h1 : l.getD i false = false) : mayF l (i : Int) a = false := by
  unfold mayF; rw [if_neg (by omega), show ((i : Int)).toNat = i from rfl, h1]; simp
theorem may_at (l : List Bool) (i : Nat) (a : Int) (h : i < l.length) (h1 : l.getD i false = true) : mayF l (i : Int) a = (decide (0 ≤ a) && decide (a ≤ 256)) := by
  unfold mayF; rw [if_neg (by omega), show ((i : Int)).toNat = i from rfl, h1, decide_eq_true (p := 0 ≤ (i : Int)) (by omega), decide_eq_true (p := (i : Int) < _) (by omega)]; simp
def MayGot (w : World) (l : List Bool) (t a : Int) (e : Ending) (w' : World) : Prop := e = .returned (.bool (mayF l t a)) ∧ w.grownBy w' none
end Go.Proofs.YtliiooldlooagaaGreatDoor.D5

/-
  How many came ahead of the torn write (fate.aheadOf), over this seat's translation; conditions: the slice reads as a list of bools.
-/
namespace Go.Proofs.YtliiooldlooagaaGreatDoor.D5
open Go.RowKit Go.Shelf
attribute [local go_sem] Oper.semAt_some

def aheadN (l : List Bool) (t : Int) : Nat := if 0 ≤ t ∧ t < (l.length : Int) ∧ l.getD t.toNat false = true then (cameTo l t.toNat).length else 0
theorem ahead_at (l : List Bool) (x : Came l) {t : Int} (h : (x.1.2 : Int) = t) : aheadN l t = x.1.1 := by
  subst h
  unfold aheadN
  rw [if_pos ⟨by omega, by have := x.2.1; omega, x.2.2.1⟩]
  exact x.2.2.2.symm
theorem ahead_none (l : List Bool) (ys : List (Came l)) (t : Int) (hy : ys.map (fun x => x.1.2) = cameTo l l.length) (h : ∀ y ∈ ys, (y.1.2 : Int) ≠ t) : aheadN l t = 0 := by
  unfold aheadN
  by_cases hc : 0 ≤ t ∧ t < (l.length : Int) ∧ l.getD t.toNat false = true
  · exfalso
    obtain ⟨h0, h1, h2⟩ := hc
    have h3 := came_get l l.length t.toNat (by omega) h2
    rw [← hy, List.getElem?_map] at h3
    obtain ⟨y, hy1, hy2⟩ := Option.map_eq_some_iff.1 h3
    exact h y (List.mem_of_getElem? hy1) (by omega)
  · rw [if_neg hc]
theorem int_row {fn : Func} {p : Tmp} (h : fn.results = #[.cell p 3]) (tmps : Array Value) (w : World) (B : Nat) (z : Int)
    (hp : tmps.getD p undef = .pointer (some ⟨B, 0, none⟩)) (hb : Blk w B 3 #[.int .i64 z]) : (results fn tmps).run Tryz.prog w = .ok (.int .i64 z) w := by
  have r0 := hb.cell 0 rfl
  have hp' : tmps[p]?.getD undef = .pointer (some ⟨B, 0, none⟩) := by simpa using hp
  simp [results, h, hp', go_sem, r0]
def AheadGot (w : World) (l : List Bool) (t : Int) (e : Ending) (w' : World) : Prop := e = .returned (.int .i64 (aheadN l t : Nat)) ∧ w.grownBy w' none
end Go.Proofs.YtliiooldlooagaaGreatDoor.D5

/-
  The bytes of a fate: plain mathematics (bits set one by one, read again), no conditions beside those that each law states.
-/
namespace Go.Proofs.YtliiooldlooagaaGreatDoor.D5
open Go.RowKit

def orAt (l : List UInt8) (i : Nat) : List UInt8 := l.set (i / 8) (UInt8.ofNat ((l.getD (i / 8) 0).toNat ||| 2 ^ (i % 8)))
def addAt (l : List UInt8) (i : Nat) : List UInt8 := l.set (i / 8) (UInt8.ofNat ((l.getD (i / 8) 0).toNat + 2 ^ (i % 8)))
theorem orAt_length (l : List UInt8) (i : Nat) : (orAt l i).length = l.length := by simp [orAt]
theorem foldl_or_length (is : List Nat) : ∀ l : List UInt8, (is.foldl orAt l).length = l.length := by
  induction is with
  | nil => intro l; rfl
  | cons i is ih => intro l; rw [List.foldl_cons, ih, orAt_length]
def sizeN (n : Nat) : Nat := (n + 7) / 8
/-- The bytes of the first k. -/
def bitsTo (l : List Bool) (k : Nat) : List UInt8 := (cameTo l k).foldl orAt (List.replicate (sizeN l.length) 0)
theorem bitsTo_length (l : List Bool) (k : Nat) : (bitsTo l k).length = sizeN l.length := by
  unfold bitsTo; rw [foldl_or_length]; simp
theorem getD_set (l : List UInt8) (i j : Nat) (v : UInt8) (h : i < l.length) : (l.set i v).getD j 0 = if i = j then v else l.getD j 0 := by
  by_cases e : i = j
  · subst e; simp [List.getD, h]
  · simp [List.getD, e]
theorem byte_or_lt (c : UInt8) (r : Nat) (hr : r < 8) : c.toNat ||| 2 ^ r < 256 := by
  have h1 : c.toNat < 2 ^ 8 := c.toNat_lt
  have h2 : 2 ^ r < 2 ^ 8 := Nat.pow_lt_pow_right (by omega) hr
  exact Nat.or_lt_two_pow h1 h2
theorem u8_of (n : Nat) (h : n < 256) : (UInt8.ofNat n).toNat = n := by simp; omega
theorem orAt_bit (s : List UInt8) (i j r : Nat) (hi : i / 8 < s.length) (hr : r < 8) : ((orAt s i).getD j 0).toNat.testBit r = ((s.getD j 0).toNat.testBit r || decide (i = 8 * j + r)) := by
  unfold orAt
  rw [getD_set _ _ _ _ hi]
  by_cases e : i / 8 = j
  · rw [if_pos e]
    have hm := byte_or_lt (s.getD (i / 8) 0) (i % 8) (Nat.mod_lt _ (by omega))
    rw [u8_of _ hm, Nat.testBit_or, Nat.testBit_two_pow, e]
    congr 1
    apply decide_eq_decide.2
    omega
  · rw [if_neg e]
    have : decide (i = 8 * j + r) = false := decide_eq_false (by omega)
    rw [this]; simp
theorem bitsTo_bit (l : List Bool) (k : Nat) (hk : k ≤ l.length) : ∀ j r, r < 8 → ((bitsTo l k).getD j 0).toNat.testBit r = (decide (8 * j + r < k) && l.getD (8 * j + r) false) := by
  induction k with
  | zero =>
    intro j r _
    have : (bitsTo l 0).getD j 0 = 0 := by
      simp [bitsTo, cameTo, List.getD, List.getElem?_replicate]
      split <;> rfl
    rw [this]; simp
  | succ k ih =>
    intro j r hr
    have ih' := ih (by omega) j r hr
    cases hb : l.getD k false with
    | false =>
      have : bitsTo l (k + 1) = bitsTo l k := by unfold bitsTo; rw [cameTo_no hb]
      rw [this, ih']
      by_cases e : 8 * j + r = k
      · rw [e, hb]; simp
      · have : decide (8 * j + r < k + 1) = decide (8 * j + r < k) := decide_eq_decide.2 (by omega)
        rw [this]
    | true =>
      have : bitsTo l (k + 1) = orAt (bitsTo l k) k := by unfold bitsTo; rw [cameTo_yes hb, List.foldl_append]; rfl
      rw [this, orAt_bit _ _ _ _ (by rw [bitsTo_length]; unfold sizeN; omega) hr, ih']
      by_cases e : k = 8 * j + r
      · rw [← e, hb]; simp
      · have h1 : decide (8 * j + r < k + 1) = decide (8 * j + r < k) := decide_eq_decide.2 (by omega)
        rw [h1, decide_eq_false e]; simp
/-- What the document's own answer adds is what the program sets. -/
theorem add_or (l : List Bool) (k : Nat) (hk : k ≤ l.length) : (cameTo l k).foldl addAt (List.replicate (sizeN l.length) 0) = bitsTo l k := by
  induction k with
  | zero => rfl
  | succ k ih =>
    have ih' := ih (by omega)
    cases hb : l.getD k false with
    | false => unfold bitsTo; rw [cameTo_no hb]; exact ih'
    | true =>
      have h1 : bitsTo l (k + 1) = orAt (bitsTo l k) k := by unfold bitsTo; rw [cameTo_yes hb, List.foldl_append]; rfl
      rw [h1, cameTo_yes hb, List.foldl_append, ih']
      show addAt (bitsTo l k) k = _
      unfold addAt orAt
      have hlt : ((bitsTo l k).getD (k / 8) 0).toNat < 2 ^ (k % 8) := by
        apply Nat.lt_pow_two_of_testBit
        intro r hr
        by_cases h8 : r < 8
        · rw [bitsTo_bit l k (by omega) _ _ h8, decide_eq_false (by omega)]; rfl
        · apply Nat.testBit_lt_two_pow
          have h2 : ((bitsTo l k).getD (k / 8) 0).toNat < 2 ^ 8 := UInt8.toNat_lt _
          exact Nat.lt_of_lt_of_le h2 (Nat.pow_le_pow_right (by omega) (by omega))
      have := Nat.two_pow_add_eq_or_of_lt hlt 1
      rw [Nat.mul_one] at this
      rw [Nat.add_comm, this, Nat.or_comm]
/-- The bytes of a fate, and what is wrong with one. -/
def tailB (l : List Bool) (t a : Int) : List UInt8 := if t = -1 then [] else [UInt8.ofNat (aheadN l t), UInt8.ofNat (a.toNat / 256), UInt8.ofNat (a.toNat % 256)]
def longF (l : List Bool) (t : Int) : Bool := decide (127 < aheadN l t) || decide (4096 < l.length)
def putE (l : List Bool) (t a : Int) : Int := if mayF l t a = true then (if longF l t = true then 4 else 0) else 2
def putB (l : List Bool) (t a : Int) : List UInt8 := if mayF l t a = true then (if longF l t = true then [] else bitsTo l l.length ++ tailB l t a) else []
theorem may_cases {l : List Bool} {t a : Int} (h : mayF l t a = true) : (t = -1 ∧ a = 0) ∨ ∃ i : Nat, t = i ∧ i < l.length ∧ l.getD i false = true ∧ 0 ≤ a ∧ a ≤ 256 := by
  unfold mayF at h
  by_cases e : t = -1
  · rw [if_pos e] at h; exact .inl ⟨e, of_decide_eq_true h⟩
  · rw [if_neg e] at h
    simp only [Bool.and_eq_true, decide_eq_true_eq] at h
    obtain ⟨h1, h2, h3, h4, h5⟩ := h
    obtain ⟨i, rfl⟩ := Int.eq_ofNat_of_zero_le h1
    exact .inr ⟨i, rfl, by omega, h3, h4, h5⟩
theorem ahead_i (l : List Bool) (i : Nat) (h : i < l.length) (hb : l.getD i false = true) : aheadN l (i : Int) = (cameTo l i).length := by
  unfold aheadN; rw [if_pos ⟨by omega, by omega, hb⟩]; rfl
theorem ahead_minus (l : List Bool) : aheadN l (-1) = 0 := by unfold aheadN; rw [if_neg (by omega)]
theorem bits_or : ∀ c : Fin 256, ∀ r : Fin 8, bits BinOp.or IntKind.u8 (c.val : Int) (2 ^ r.val) = ((c.val ||| 2 ^ r.val : Nat) : Int) := by decide +kernel
end Go.Proofs.YtliiooldlooagaaGreatDoor.D5

/-
  The choices of a fate (fate.Put), over this seat's translation; conditions: the table of masks reads as the program lays it, the slice reads as a list of bools.
-/
namespace Go.Proofs.YtliiooldlooagaaGreatDoor.D5
open Go.RowKit Go.Shelf
attribute [local go_sem] Oper.semAt_some

/-- The bytes behind the bits of some writes. -/
def orsOf {b : List Bool} (pre : List (Came b)) (S : Nat) : List UInt8 := (pre.map fun x => x.1.2).foldl orAt (List.replicate S 0)
theorem orsOf_snoc {b : List Bool} (pre : List (Came b)) (x : Came b) (S : Nat) : orsOf (pre ++ [x]) S = orAt (orsOf pre S) x.1.2 := by
  unfold orsOf; rw [List.map_append, List.foldl_append]; rfl
theorem orsOf_length {b : List Bool} (pre : List (Came b)) (S : Nat) : (orsOf pre S).length = S := by
  unfold orsOf; rw [foldl_or_length]; simp
theorem bytes_set (s : List UInt8) (q z : Nat) (hz : z < 256) : (bytesC s).toArray.setIfInBounds q (.int .u8 (z : Nat)) = (bytesC (s.set q (UInt8.ofNat z))).toArray := by
  rw [List.setIfInBounds_toArray]
  congr 1
  unfold bytesC
  rw [List.map_set, u8_of z hz]
theorem bts_of_blk {w : World} {b n : Nat} {l : List UInt8} (h : Blk w b 5 (bytesC l).toArray) (hn : l.length = n) : Bts w (.slice (some ⟨b, 0, none⟩) n n) l := by
  subst hn
  refine ⟨some ⟨b, 0, none⟩, l.length, rfl, Nat.le_refl _, by simp [bytesC], (fun e => by cases e), ?_⟩
  intro a e j u hj
  cases e
  have := h.cell j (v := u) (by rw [List.getElem?_toArray]; exact hj)
  rw [add_lit]; exact this
theorem cells3_new (w : World) (x y z : Value) (t : TypeId) : ∀ j u, [x, y, z][j]? = some u → (w.alloc (.cells #[x, y, z] t)).cell? ((⟨w.heap.size, 0, none⟩ : Addr).add j) = some u := by
  intro j u hj
  rw [add_lit]
  exact (Blk.mk w t #[x, y, z]).cell j (by rw [List.getElem?_toArray]; exact hj)
theorem one3 (x y z : Int) : ∀ u ∈ [Value.int .u8 x, .int .u8 y, .int .u8 z], u.oneCell' = true := by
  intro u hu
  simp at hu
  rcases hu with rfl | rfl | rfl <;> rfl
theorem bytes_app3 (l : List UInt8) (x y z : Nat) (hx : x < 256) (hy : y < 256) (hz : z < 256) : bytesC (l ++ [UInt8.ofNat x, UInt8.ofNat y, UInt8.ofNat z]) = bytesC l ++ [.int .u8 (x : Nat), .int .u8 (y : Nat), .int .u8 (z : Nat)] := by
  unfold bytesC
  rw [List.map_append]
  simp only [List.map_cons, List.map_nil, u8_of x hx, u8_of y hy, u8_of z hz]
theorem own_not {w : World} {base size n D : Nat} {e : TypeId} {v : Value} {xs : List Value} {x : Option (List Deferred)} (h : w.ownsRow base e size v n xs) (hK : w.heap[D]? = some (.deferred x)) : v.ownBlock ≠ some D := by
  rcases h.2 with ⟨rfl, _⟩ | ⟨g, cap, cur, rfl, _, hg, _⟩
  · intro h; cases h
  · intro h
    have h2 : some g = some D := h
    rw [Option.some.inj h2, hK] at hg
    cases hg
def PutGot (w : World) (l : List Bool) (t a : Int) (e : Ending) (w' : World) : Prop := ∃ v, e = .returned (.tuple #[v, .int .i64 (putE l t a)]) ∧ Bts w' v (putB l t a) ∧ w.grownBy w' none
theorem put_arg (l : List Bool) (t a : Int) (h : mayF l t a = false) : putE l t a = 2 ∧ putB l t a = [] := by
  unfold putE putB; rw [h]; exact ⟨rfl, rfl⟩
theorem put_long (l : List Bool) (t a : Int) (h : mayF l t a = true) (h2 : longF l t = true) : putE l t a = 4 ∧ putB l t a = [] := by
  unfold putE putB; rw [h, h2]; exact ⟨rfl, rfl⟩
theorem put_ok (l : List Bool) (t a : Int) (h : mayF l t a = true) (h2 : longF l t = false) : putE l t a = 0 ∧ putB l t a = bitsTo l l.length ++ tailB l t a := by
  unfold putE putB; rw [h, h2]; exact ⟨rfl, rfl⟩
theorem two_row {fn : Func} {p q : Tmp} (h : fn.results = #[.tmp p, .tmp q]) (tmps : Array Value) (P : Program) (w : World) : (results fn tmps).run P w = .ok (.tuple #[tmps.getD p undef, tmps.getD q undef]) w := by
  simp [results, h]
theorem _root_.Go.Proofs.YtliiooldlooagaaGreatDoor.Bts.nil (w : World) : Bts w (.slice none 0 0) [] := Sl.nil 1 w
end Go.Proofs.YtliiooldlooagaaGreatDoor.D5

/-
  What comes of one write: whether it fits (fate.fits), and what is in a sector behind a torn one (fate.cut), over this seat's translation; conditions: the numbers fit their kinds, the texts are as long as a sector.
-/
namespace Go.Proofs.YtliiooldlooagaaGreatDoor.D5
open Go.RowKit

/-- How many first bytes. -/
def clampN (a : Int) : Nat := min a.toNat 256
theorem clampN_le (a : Int) : clampN a ≤ 256 := Nat.min_le_right _ _
def cutS (d : ByteArray) (a : Int) (had : ByteArray) : ByteArray := d.extract 0 (clampN a) ++ had.extract (clampN a) 256
def fitsB (k : Int) (d : ByteArray) (n : Nat) : Bool := decide (0 ≤ k) && (decide (k < (n : Int)) && decide (d.size = 256))
def FitsGot (w : World) (k : Int) (d : ByteArray) (n : Nat) (e : Ending) (w' : World) : Prop := e = .returned (.bool (fitsB k d n)) ∧ w.grownBy w' none
def CutGot (w : World) (d : ByteArray) (a : Int) (had : ByteArray) (e : Ending) (w' : World) : Prop := e = .returned (.string (cutS d a had)) ∧ w.grownBy w' none
end Go.Proofs.YtliiooldlooagaaGreatDoor.D5
