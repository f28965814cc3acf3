/-
  What a node is, as plain mathematics: cells, keys and Kids; which may be, how many bytes they have, which bytes; and how a node lies in memory. No conditions beside those that each law states.
-/
import Derived.Test.YthhimhjegodklaaGreatRef
import Derived.Laws.Cover1
import Derived.Deep.Slices
import Derived.Deep.RegionHeld3
import Derived.OrdersHeld
import Derived.IntWalk
import Derived.WalkSpells
import Derived.Outline
import Derived.Recover
namespace Go.Proofs.YthhimhjegodklaaGreat.N11
set_option linter.unusedSimpArgs false
set_option linter.unusedVariables false
open Go.RowKit
/-- A cell. -/
structure Ce where
  key : ByteArray
  val : ByteArray
  fi : Int
  lo : Int
/-- A node. -/
structure Nd where
  leaf : Bool
  cells : List Ce
  keys : List ByteArray
  kids : List Int
def noS : ByteArray := ⟨#[]⟩
def Nd.zero : Nd := ⟨false, [], [], []⟩
/-- The order of texts. -/
def ltS (a b : ByteArray) : Bool := Op.bytesLess a.toList b.toList
def leS (a b : ByteArray) : Bool := Op.bytesLess a.toList b.toList || a.toList == b.toList
theorem less_iff : ∀ (x y : List UInt8), Op.bytesLess x y = decide (x < y)
  | [], [] => by simp [Op.bytesLess]
  | _ :: _, [] => by simp [Op.bytesLess]
  | [], _ :: _ => by simp [Op.bytesLess]
  | a :: x, b :: y => by
    rw [Op.bytesLess, less_iff x y, Bool.eq_iff_iff]
    simp only [Bool.or_eq_true, Bool.and_eq_true, decide_eq_true_eq, beq_iff_eq, List.cons_lt_cons_iff]
theorem ltS_iff (a b : ByteArray) : ltS a b = true ↔ a.data.toList < b.data.toList := by
  unfold ltS; rw [ByteArray.toList_eq, ByteArray.toList_eq, less_iff]; simp
theorem eqS_iff (a b : ByteArray) : (a.toList == b.toList) = true ↔ a = b := by
  rw [ByteArray.toList_eq, ByteArray.toList_eq]
  constructor
  · intro h
    have h1 := eq_of_beq h
    cases a; cases b
    simpa using h1
  · rintro rfl; simp
theorem leS_iff (a b : ByteArray) : leS a b = true ↔ a.data.toList < b.data.toList ∨ a = b := by
  unfold leS; rw [Bool.or_eq_true, eqS_iff]
  exact or_congr (ltS_iff a b) Iff.rfl
theorem ltS_trans {a b c : ByteArray} (h : ltS a b = true) (k : ltS b c = true) : ltS a c = true := by
  rw [ltS_iff] at h k ⊢; exact List.lt_trans h k
theorem ltS_irrefl (a : ByteArray) : ltS a a = false := by
  rcases h : ltS a a with _ | _
  · rfl
  · rw [ltS_iff] at h; exact absurd h (List.lt_irrefl _)
theorem leS_not (a b : ByteArray) : leS a b = !ltS b a := by
  rcases h : ltS b a with _ | _
  · rcases k : leS a b with _ | _
    · exfalso
      have h1 : ¬ b.data.toList < a.data.toList := by rw [← ltS_iff, h]; simp
      have k1 : ¬ (a.data.toList < b.data.toList ∨ a = b) := by rw [← leS_iff, k]; simp
      have := List.le_antisymm (List.not_lt.1 h1) (List.not_lt.1 (fun e => k1 (.inl e)))
      refine k1 (.inr ?_)
      cases a; cases b; simpa using this
    · rfl
  · rcases k : leS a b with _ | _
    · rfl
    · exfalso
      rw [ltS_iff] at h
      rcases (leS_iff a b).1 k with k | k
      · exact absurd (List.lt_trans h k) (List.lt_irrefl _)
      · rw [k] at h; exact absurd h (List.lt_irrefl _)
theorem lt_le {a b c : ByteArray} (h : ltS a b = true) (k : leS b c = true) : ltS a c = true := by
  rcases (leS_iff b c).1 k with k | k
  · exact ltS_trans h ((ltS_iff _ _).2 k)
  · rwa [← k]
/-- Each one's text is above that of the one ahead. -/
def riseF : List ByteArray → Bool
  | [] => true
  | [_] => true
  | a :: b :: r => ltS a b && riseF (b :: r)
theorem riseF_iff (l : List ByteArray) : riseF l = true ↔ ∀ i a b, l[i]? = some a → l[i + 1]? = some b → ltS a b = true := by
  induction l with
  | nil => simp [riseF]
  | cons x r ih =>
    cases r with
    | nil =>
      refine ⟨fun _ i a b h1 h2 => ?_, fun _ => rfl⟩
      simp at h2
    | cons y r =>
      rw [riseF, Bool.and_eq_true, ih]
      constructor
      · rintro ⟨h, k⟩ i a b h1 h2
        cases i with
        | zero => simp at h1 h2; subst h1; subst h2; exact h
        | succ i => exact k i a b (by simpa using h1) (by simpa using h2)
      · intro h
        exact ⟨h 0 x y rfl rfl, fun i a b h1 h2 => h (i + 1) a b (by simpa using h1) (by simpa using h2)⟩
theorem riseF_pair (l : List ByteArray) (h : riseF l = true) : l.Pairwise (fun a b => ltS a b = true) := by
  induction l with
  | nil => exact List.Pairwise.nil
  | cons x r ih =>
    cases r with
    | nil => exact List.pairwise_singleton _ _
    | cons y r =>
      rw [riseF, Bool.and_eq_true] at h
      have p := ih h.2
      refine List.Pairwise.cons ?_ p
      intro z hz
      rcases List.mem_cons.1 hz with rfl | hz
      · exact h.1
      · exact ltS_trans h.1 (List.rel_of_pairwise_cons p hz)
theorem pair_riseF (l : List ByteArray) (h : l.Pairwise (fun a b => ltS a b = true)) : riseF l = true := by
  induction l with
  | nil => rfl
  | cons x r ih =>
    cases r with
    | nil => rfl
    | cons y r =>
      rw [riseF, Bool.and_eq_true]
      exact ⟨List.rel_of_pairwise_cons h (List.mem_cons_self ..), ih (List.Pairwise.of_cons h)⟩
def keyB (s : ByteArray) : Bool := decide (1 ≤ s.size) && decide (s.size ≤ 40)
def pageB (n : Int) : Bool := decide (1 ≤ n) && decide (n ≤ 960)
def shortB (c : Ce) : Bool := decide (c.val.size ≤ 40) && decide (c.fi = 0) && decide (c.lo = 0)
def longB (c : Ce) : Bool := decide (c.val.size = 0) && pageB c.fi && decide (40 < c.lo) && decide (c.lo ≤ 2000)
def cellB (c : Ce) : Bool := keyB c.key && (shortB c || longB c)
def Nd.may (n : Nd) : Bool :=
  if n.leaf then decide (0 < n.cells.length) && decide (n.keys.length = 0) && decide (n.kids.length = 0) && n.cells.all cellB && riseF (n.cells.map Ce.key)
  else decide (n.cells.length = 0) && decide (0 < n.keys.length) && decide (n.kids.length = n.keys.length + 1) && n.keys.all keyB && riseF n.keys && n.kids.all pageB
def cellSz (c : Ce) : Nat := if longB c then 1 + c.key.size + 5 else 1 + c.key.size + 1 + c.val.size
def keySz (s : ByteArray) : Nat := 1 + s.size + 2
def sumF {α : Type} (f : α → Nat) (l : List α) : Nat := (l.map f).sum
theorem sumF_append {α : Type} (f : α → Nat) (l r : List α) : sumF f (l ++ r) = sumF f l + sumF f r := by simp [sumF]
theorem sumF_cons {α : Type} (f : α → Nat) (x : α) (r : List α) : sumF f (x :: r) = f x + sumF f r := by simp [sumF]
theorem sumF_take {α : Type} (f : α → Nat) (l : List α) (i : Nat) (x : α) (h : l[i]? = some x) : sumF f (l.take (i + 1)) = sumF f (l.take i) + f x := by
  rw [List.take_add_one, h, sumF_append]; simp [sumF]
theorem sumF_drop {α : Type} (f : α → Nat) (l : List α) (i : Nat) (x : α) (h : l[i]? = some x) : sumF f (l.drop i) = f x + sumF f (l.drop (i + 1)) := by
  rw [List.drop_eq_getElem_cons (List.getElem?_eq_some_iff.1 h).1, sumF_cons]
  rw [(List.getElem?_eq_some_iff.1 h).2]
theorem sumF_le {α : Type} (f : α → Nat) (l : List α) (m : Nat) (h : ∀ x ∈ l, f x ≤ m) : sumF f l ≤ m * l.length := by
  induction l with
  | nil => simp [sumF]
  | cons x r ih =>
    rw [sumF_cons, List.length_cons, Nat.mul_add]
    have h1 := h x (List.mem_cons_self ..)
    have h2 := ih (fun y hy => h y (List.mem_cons_of_mem _ hy))
    omega
def Nd.size (n : Nd) : Nat := if n.leaf then 2 + sumF cellSz n.cells else 4 + sumF keySz n.keys
def Nd.fits (n : Nd) : Bool := n.may && decide (n.size ≤ 240)
/-- The bytes. -/
def textL (s : ByteArray) : List UInt8 := digits s.size 1 ++ s.data.toList
def valL (c : Ce) : List UInt8 := if longB c then digits 255 1 ++ digits c.fi.toNat 2 ++ digits c.lo.toNat 2 else textL c.val
def cellL (c : Ce) : List UInt8 := textL c.key ++ valL c
def pairL (x : ByteArray × Int) : List UInt8 := textL x.1 ++ digits x.2.toNat 2
def Nd.bytes (n : Nd) : List UInt8 :=
  if n.leaf then digits 1 1 ++ digits (n.cells.length % 256) 1 ++ n.cells.flatMap cellL
  else digits 2 1 ++ digits (n.keys.length % 256) 1 ++ digits (n.kids.headD 0).toNat 2 ++ (n.keys.zip n.kids.tail).flatMap pairL
theorem textL_length (s : ByteArray) : (textL s).length = 1 + s.size := by
  rw [textL, List.length_append, digits_length, Array.length_toList]; rfl
theorem cellL_length (c : Ce) : (cellL c).length = cellSz c := by
  unfold cellL valL cellSz
  split <;> simp only [List.length_append, textL_length, digits_length] <;> omega
theorem flat_length {α : Type} (f : α → List UInt8) (g : α → Nat) (h : ∀ x, (f x).length = g x) (l : List α) : (l.flatMap f).length = sumF g l := by
  induction l with
  | nil => rfl
  | cons x r ih => rw [List.flatMap_cons, List.length_append, ih, h, sumF_cons]
theorem pair_length (x : ByteArray × Int) : (pairL x).length = keySz x.1 := by rw [pairL, List.length_append, textL_length, digits_length]; rfl
theorem zip_sum : ∀ (ks : List ByteArray) (is : List Int), ks.length = is.length → sumF (fun x : ByteArray × Int => keySz x.1) (ks.zip is) = sumF keySz ks
  | [], _, _ => by simp [sumF]
  | k :: ks, [], h => by simp at h
  | k :: ks, i :: is, h => by rw [List.zip_cons_cons, sumF_cons, sumF_cons, zip_sum ks is (by simpa using h)]
theorem Nd.bytes_length (n : Nd) (h : n.may = true) : n.bytes.length = n.size := by
  unfold Nd.bytes Nd.size
  unfold Nd.may at h
  split
  · rw [List.length_append, flat_length cellL cellSz cellL_length]; simp only [List.length_append, digits_length]
  · rename_i hl
    rw [if_neg hl] at h
    simp only [Bool.and_eq_true, decide_eq_true_eq] at h
    rw [List.length_append, flat_length pairL (fun x => keySz x.1) pair_length, zip_sum _ _ (by rw [List.length_tail]; omega)]; simp only [List.length_append, digits_length]
theorem cellSz_le (c : Ce) (h : cellB c = true) : 3 ≤ cellSz c ∧ cellSz c ≤ 82 := by
  unfold cellB keyB shortB at h
  unfold cellSz
  simp only [Bool.and_eq_true, Bool.or_eq_true, decide_eq_true_eq] at h
  rcases hb : longB c with _ | _
  · rw [hb] at h; simp at h ⊢; omega
  · simp; omega
theorem keySz_le (s : ByteArray) (h : keyB s = true) : 4 ≤ keySz s ∧ keySz s ≤ 43 := by
  unfold keyB at h; unfold keySz
  simp only [Bool.and_eq_true, decide_eq_true_eq] at h
  omega
/-- How they lie in memory. -/
def Ce.row (c : Ce) : List Value := [.string c.key, .string c.val, .int .i64 c.fi, .int .i64 c.lo]
def Ce.agg (c : Ce) : Value := .agg #[.string c.key, .string c.val, .int .i64 c.fi, .int .i64 c.lo]
def ceC (l : List Ce) : List Value := l.flatMap Ce.row
def inC (l : List Int) : List Value := l.map fun n => .int .i64 n
theorem ceC_length (l : List Ce) : (ceC l).length = l.length * 4 := by
  induction l with
  | nil => rfl
  | cons c l ih => simp only [ceC, List.flatMap_cons, List.length_append] at ih ⊢; rw [ih]; simp [Ce.row]; omega
theorem ceC_append (l r : List Ce) : ceC (l ++ r) = ceC l ++ ceC r := by simp [ceC]
theorem ceC_at (l : List Ce) : ∀ (i : Nat) (c : Ce), l[i]? = some c → ∀ k, k < 4 → (ceC l)[i * 4 + k]? = c.row[k]? := by
  induction l with
  | nil => intro i c h; simp at h
  | cons g l ih =>
    intro i c h k hk
    have e : ceC (g :: l) = g.row ++ ceC l := rfl
    have hg : g.row.length = 4 := rfl
    cases i with
    | zero =>
      have : g = c := by simpa using h
      subst this
      rw [e, List.getElem?_append_left (by omega)]; simp
    | succ i =>
      rw [e, List.getElem?_append_right (by omega), show (i + 1) * 4 + k - g.row.length = i * 4 + k by omega]
      exact ih i c (by simpa using h) k hk
theorem ceC_take (l : List Ce) (i : Nat) : ceC (l.take i) = (ceC l).take (i * 4) := by
  induction l generalizing i with
  | nil => simp [ceC]
  | cons c l ih =>
    cases i with
    | zero => simp [ceC]
    | succ i =>
      have e : ceC (c :: l) = c.row ++ ceC l := rfl
      rw [List.take_succ_cons, e, show (i + 1) * 4 = c.row.length + i * 4 by simp [Ce.row]; omega, List.take_length_add_append, ← ih]; rfl
theorem ceC_drop (l : List Ce) (i : Nat) : ceC (l.drop i) = (ceC l).drop (i * 4) := by
  induction l generalizing i with
  | nil => simp [ceC]
  | cons c l ih =>
    cases i with
    | zero => simp
    | succ i =>
      have e : ceC (c :: l) = c.row ++ ceC l := rfl
      rw [List.drop_succ_cons, e, show (i + 1) * 4 = c.row.length + i * 4 by simp [Ce.row]; omega, ← List.drop_drop, List.drop_left, ← ih]
def Ces (w : World) (v : Value) (l : List Ce) : Prop := Sl 4 w v l.length (ceC l)
def Ins (w : World) (v : Value) (l : List Int) : Prop := Sl 1 w v l.length (inC l)
theorem Ces.keep0 {w w' : World} {v : Value} {l : List Ce} (h : Ces w v l) (g : w.grownBy w' none) : Ces w' v l := Sl.keep0 h g
theorem Ins.keep0 {w w' : World} {v : Value} {l : List Int} (h : Ins w v l) (g : w.grownBy w' none) : Ins w' v l := Sl.keep0 h g
theorem stsKeep0 {w w' : World} {v : Value} {l : List ByteArray} (h : Sts w v l) (g : w.grownBy w' none) : Sts w' v l := Sl.keep0 h g
theorem addr_add (a : Addr) (i j : Nat) : (a.add i).add j = a.add (i + j) := by
  unfold Addr.add
  by_cases hi : i = 0 <;> by_cases hj : j = 0 <;> simp [hi, hj, Nat.add_assoc]
theorem addr_succ (a : Addr) (i j : Nat) : (⟨(a.add i).block, (a.add i).off + (j + 1), none⟩ : Addr) = a.add (i + (j + 1)) := by
  rw [← addr_add]; rfl
/-- The cells of the cell at a place. -/
def CAt (w : World) (a : Addr) (i : Nat) (c : Ce) : Prop :=
  w.cell? (a.add (i * 4)) = some (.string c.key) ∧ w.cell? ⟨(a.add (i * 4)).block, (a.add (i * 4)).off + 1, none⟩ = some (.string c.val) ∧ w.cell? ⟨(a.add (i * 4)).block, (a.add (i * 4)).off + 2, none⟩ = some (.int .i64 c.fi) ∧ w.cell? ⟨(a.add (i * 4)).block, (a.add (i * 4)).off + 3, none⟩ = some (.int .i64 c.lo)
theorem cat_of {w : World} {a : Addr} {l : List Ce} (h : ∀ j u, (ceC l)[j]? = some u → w.cell? (a.add j) = some u) {i : Nat} {c : Ce} (hi : l[i]? = some c) : CAt w a i c := by
  refine ⟨?_, ?_, ?_, ?_⟩
  · exact h _ _ (by rw [show i * 4 = i * 4 + 0 from rfl, ceC_at l i c hi 0 (by omega)]; rfl)
  · rw [show (1 : Nat) = 0 + 1 from rfl, addr_succ]; exact h _ _ (by rw [ceC_at l i c hi (0 + 1) (by omega)]; rfl)
  · rw [show (2 : Nat) = 1 + 1 from rfl, addr_succ]; exact h _ _ (by rw [ceC_at l i c hi (1 + 1) (by omega)]; rfl)
  · rw [show (3 : Nat) = 2 + 1 from rfl, addr_succ]; exact h _ _ (by rw [ceC_at l i c hi (2 + 1) (by omega)]; rfl)
/-- A node in memory. -/
def NdV (w : World) (v : Value) (n : Nd) : Prop := ∃ a b c, v = .agg #[.bool n.leaf, a, b, c] ∧ Ces w a n.cells ∧ Sts w b n.keys ∧ Ins w c n.kids
theorem NdV.keep0 {w w' : World} {v : Value} {n : Nd} (h : NdV w v n) (g : w.grownBy w' none) : NdV w' v n := by
  obtain ⟨a, b, c, rfl, h1, h2, h3⟩ := h
  exact ⟨a, b, c, rfl, h1.keep0 g, stsKeep0 h2 g, h3.keep0 g⟩
def nilSl : Value := .slice none 0 0
theorem NdV.zero (w : World) : NdV w (.agg #[.bool false, .slice none 0 0, .slice none 0 0, .slice none 0 0]) Nd.zero := ⟨_, _, _, rfl, Sl.nil _ _, Sl.nil _ _, Sl.nil _ _⟩
end Go.Proofs.YthhimhjegodklaaGreat.N11

