/-
  Texts of one layer, one behind the other, each with its own sentence; conditions: those that each law states.
-/
import Derived.ArgAppend
import Derived.Lib.AppendStr
import Derived.Laws.IdiomStrings
import Derived.Laws.BytesArg
import Derived.WalkSpells
import Derived.IntWalk
import Derived.Test.YtliiooldlooagaaGreatDoorZROOT7
set_option linter.unusedSimpArgs false
set_option linter.unusedVariables false

/-
  Laws on slices of bytes for this seat: a slice that reads as given bytes, appends of one byte to it (with a new array) and to a row of the call's own, its text; no conditions beside those that each law states.
-/
namespace Go.Proofs.YtliiooldlooagaaGreatDoor
open Go.RowKit

/-- Bytes as cells. -/
def bcells (l : List UInt8) : List Value := l.map fun c => Value.int .u8 (c.toNat : Int)
theorem bcells_length (l : List UInt8) : (bcells l).length = l.length := by simp [bcells]
theorem bcells_append (l r : List UInt8) : bcells (l ++ r) = bcells l ++ bcells r := by simp [bcells]
/-- A slice that reads as these bytes. -/
def Bs (w : World) (v : Value) (l : List UInt8) : Prop :=
  ∃ (ao : Option Addr) (cap : Nat), v = .slice ao l.length cap ∧ l.length ≤ cap ∧ (ao = none → l.length = 0 ∧ cap = 0) ∧ ∀ a, ao = some a → ∀ j u, (bcells l)[j]? = some u → w.cell? (a.add j) = some u
/-- The digits of a number to the base 256, so many, the highest first. -/
def digits : Nat → Nat → List UInt8
  | _, 0 => []
  | n, k + 1 => digits (n / 256) k ++ [UInt8.ofNat (n % 256)]
theorem digits_length (k : Nat) : ∀ n, (digits n k).length = k := by
  induction k with
  | zero => intro n; rfl
  | succ k ih => intro n; simp [digits, ih]
/-- What is returned is a slice of the call's own that reads as these bytes; nothing that was there has turned. -/
def Laid (w : World) (l : List UInt8) (e : Ending) (w' : World) : Prop :=
  ∃ v', e = .returned v' ∧ w'.ownsRow w.heap.size 5 1 v' l.length (bcells l) ∧ w.grownBy w' none

theorem Bs.nil (w : World) : Bs w (.slice none 0 0) [] := ⟨none, 0, rfl, Nat.le_refl _, fun _ => ⟨rfl, rfl⟩, fun _ h => by cases h⟩
theorem Bs.of_owns {w : World} {base : Nat} {v : Value} {l : List UInt8} (h : w.ownsRow base 5 1 v l.length (bcells l)) : Bs w v l := by
  rcases h.2 with ⟨rfl, hn⟩ | ⟨g, cap, cur, rfl, hb, hh, hc, hm, hs, ht⟩
  · exact ⟨none, 0, by rw [hn], by omega, fun _ => ⟨hn, rfl⟩, fun _ e => by cases e⟩
  · refine ⟨some ⟨g, 0, none⟩, cap, rfl, hc, (fun e => by cases e), ?_⟩
    intro a e j u hj
    cases e
    exact h.cells (g := g) rfl j u hj
theorem Bs.keep0 {w w' : World} {v : Value} {l : List UInt8} (h : Bs w v l) (g : w.grownBy w' none) : Bs w' v l := by
  obtain ⟨ao, cap, h1, h2, h3, h4⟩ := h
  exact ⟨ao, cap, h1, h2, h3, fun a e j u hj => g.cell (h4 a e j u hj) (by simp)⟩

theorem Tryz.info8 : (Tryz.prog.info? 5).map (fun i => (i.zero, i.size, i.bytes)) = some (some (.int .u8 0), 1, 1) := by kernel_rfl

theorem cell_new (w : World) (x : Value) (t : TypeId) : ∀ j u, [x][j]? = some u → (w.alloc (.cells #[x] t)).cell? ((⟨w.heap.size, 0, none⟩ : Addr).add j) = some u := by
  intro j u hj
  obtain rfl : j = 0 := by
    have := (List.getElem?_eq_some_iff.1 hj).1
    simpa using this
  have hx : x = u := by simpa using hj
  subst hx
  simp [Addr.add]
/-- One byte appended to a slice that is full: a new array. -/
theorem app_first {ops : Array Oper} {rest : List Oper} {o : Oper} {a : Act} {Q : Exit → Act → World → Prop} (w : World) (z : Int) (s x : Operand) (l : List UInt8) (ao : Option Addr) (hgd : o.guard = none)
    (ho : o.op = .call { callee := .builtin .append, args := #[s, x], argTypes := #[59, 59] })
    (hs : a.eval s = .slice ao l.length l.length) (hx : a.eval x = .slice (some ⟨w.heap.size, 0, none⟩) 1 1)
    (hnil : ao = none → l.length = 0) (hcell : ∀ a, ao = some a → ∀ j u, (bcells l)[j]? = some u → w.cell? (a.add j) = some u) (hl : l.length ≤ 1000000)
    (h : ∀ v' w', w'.ownsRow w.heap.size 5 1 v' (l.length + 1) (bcells l ++ [.int .u8 z]) → w.grownBy w' none → wpList Tryz.prog ops Q rest (a.put o.dst v') w') :
    wpList Tryz.prog ops Q (o :: rest) a (w.alloc (.cells #[.int .u8 z] 5)) := by
  obtain ⟨i0, hi, hz0, hz1, hz2⟩ := info_parts Tryz.info8
  refine wpList_append_grows _ hgd s x 59 ho 5 i0 (.int .u8 0) 1 1 Tryz.underlying59 hi hz0 hz1 hz2 rfl (by decide) ao l.length l.length (bcells l) hs (fun e => ⟨hnil e, hnil e⟩) (by rw [bcells_length]; omega) ?_ ⟨w.heap.size, 0, none⟩ 1 1 [.int .u8 z] hx rfl (cell_new _ _ _) (fun u hu => by simp at hu; subst hu; rfl) (by omega) (by unfold maxLen; omega) (by omega) ?_
  · intro b e j u hj
    exact (gb_alloc w _ none).cell (hcell b e j u hj) (by simp)
  · intro v' w' h1 h2
    refine h v' w' ⟨h1.1, ?_⟩ (gb_trans (gb_alloc w _ none) h2)
    rcases h1.2 with h3 | ⟨g, cap, cur, e1, e2, e3⟩
    · exact Or.inl h3
    · exact Or.inr ⟨g, cap, cur, e1, by simp at e2; omega, e3⟩
/-- One byte appended to a row of the call's own. -/
theorem app_more {ops : Array Oper} {rest : List Oper} {o : Oper} {a : Act} {Q : Exit → Act → World → Prop} (W w : World) (z : Int) (s x : Operand) (v : Value) (n : Nat) (xs : List Value) (hgd : o.guard = none)
    (ho : o.op = .call { callee := .builtin .append, args := #[s, x], argTypes := #[59, 59] })
    (hs : a.eval s = v) (hx : a.eval x = .slice (some ⟨w.heap.size, 0, none⟩) 1 1)
    (hown : w.ownsRow W.heap.size 5 1 v n xs) (hg : W.grownBy w none) (hl : n ≤ 1000100)
    (h : ∀ v' w', w'.ownsRow W.heap.size 5 1 v' (n + 1) (xs ++ [.int .u8 z]) → W.grownBy w' none → wpList Tryz.prog ops Q rest (a.put o.dst v') w') :
    wpList Tryz.prog ops Q (o :: rest) a (w.alloc (.cells #[.int .u8 z] 5)) := by
  obtain ⟨i0, hi, hz0, hz1, hz2⟩ := info_parts Tryz.info8
  refine wpList_append_own _ hgd s x 59 ho W.heap.size 5 i0 (.int .u8 0) 1 1 Tryz.underlying59 hi hz0 hz1 hz2 rfl (by decide) v n xs hs (hown.alloc _) ⟨w.heap.size, 0, none⟩ 1 1 [.int .u8 z] hx rfl (cell_new _ _ _) (fun u hu => by simp at hu; subst hu; rfl) (by unfold maxLen; omega) (by omega) (by have := hg.size; simp; omega) ?_
  intro v' w' h1 h2 _
  refine h v' w' h1 ⟨h2.os.trans hg.os, h2.tape.trans hg.tape, h2.output.trans hg.output, ?_, ?_⟩
  · have := hg.size; have := h2.size; simp at this; omega
  · intro k hk _
    have hsz := hg.size
    have e1 : (w.alloc (.cells #[.int .u8 z] 5)).heap[k]? = W.heap[k]? := by
      rw [Below.heap_alloc _ _ _ (by omega)]; exact hg.block k hk (by simp)
    rw [← e1]
    refine h2.block k (by simp; omega) ?_
    intro e
    have := (hown.lt k e.symm).1
    omega
end Go.Proofs.YtliiooldlooagaaGreatDoor

/-
  What P8, P16, P32, P64 lay, over this seat's translation: behind the bytes of the slice that is handed in the digits of the number, in a slice of the call's own; conditions: the slice reads as bytes, at most a million of them.
-/
namespace Go.Proofs.YtliiooldlooagaaGreatDoor
open Go.RowKit

set_option maxRecDepth 100000 in
set_option maxHeartbeats 1000000 in
theorem lay8_any (v : Value) (l : List UInt8) (n : Nat) (w : World) (hv : Bs w v l) (hn : n < 256) (hl : l.length ≤ 1000000) :
    Calls Tryz.prog 143 #[v, .int .u8 n] w (Laid w (l ++ digits n 1)) := by
  obtain ⟨ao, cap, rfl, hcap, hnil, hcell⟩ := hv
  have HC := Lib.hid hcell
  have HN := Lib.hid hnil
  clear hcell hnil
  go_enter Tryz.func143, Tryz.ntmps143
  go_wp2_with (go_at_call 152; refine (width8 _).mono ?_; rintro e w' ⟨rfl, rfl⟩)
  refine wp_loop_rounds 2 ?_
  rw [rounds_succ]
  go_wp2_with (at_builtin; go_must (refine app_first w _ _ _ l ao rfl rfl rfl rfl (fun e => (HN.out e).1) HC.out hl ?_; intro v1 w1 o1 g1))
  rw [rounds_succ]
  go_wp2
  go_ret
  refine ⟨v1, rfl, owns_cast o1 (by simp [digits_length]) ?_, g1⟩
  simp [digits, bcells]
  omega
theorem p8_any (v : Value) (l : List UInt8) (n : Nat) (w : World) (hv : Bs w v l) (hn : n < 256) (hl : l.length ≤ 1000000) :
    Calls Tryz.prog 129 #[v, .int .u8 n] w (Laid w (l ++ digits n 1)) := by
  go_enter Tryz.func129, Tryz.ntmps129
  go_wp2_with (go_at_call 143; refine (lay8_any v l n _ hv hn hl).mono ?_; rintro e w' ⟨v', rfl, o1, g1⟩)
  go_ret
  exact ⟨v', rfl, o1, g1⟩

set_option maxRecDepth 100000 in
set_option maxHeartbeats 1000000 in
theorem lay16_any (v : Value) (l : List UInt8) (n : Nat) (w : World) (hv : Bs w v l) (hn : n < 65536) (hl : l.length ≤ 1000000) :
    Calls Tryz.prog 135 #[v, .int .u16 n] w (Laid w (l ++ digits n 2)) := by
  obtain ⟨ao, cap, rfl, hcap, hnil, hcell⟩ := hv
  have HC := Lib.hid hcell
  have HN := Lib.hid hnil
  clear hcell hnil
  go_enter Tryz.func135, Tryz.ntmps135
  go_wp2_with (go_at_call 151; refine (width16 _).mono ?_; rintro e w' ⟨rfl, rfl⟩)
  refine wp_loop_rounds 3 ?_
  rw [rounds_succ]
  go_wp2_with (at_builtin; go_must (refine app_first w _ _ _ l ao rfl rfl rfl rfl (fun e => (HN.out e).1) HC.out hl ?_; intro v1 w1 o1 g1))
  rw [rounds_succ]
  go_wp2_with (at_builtin; go_must (refine app_more w _ _ _ _ _ _ _ rfl rfl rfl rfl o1 g1 (by omega) ?_; intro v2 w2 o2 g2))
  rw [rounds_succ]
  go_wp2
  go_ret
  refine ⟨v2, rfl, owns_cast o2 (by simp [digits_length]) ?_, g2⟩
  simp [digits, bcells]
  omega
theorem p16_any (v : Value) (l : List UInt8) (n : Nat) (w : World) (hv : Bs w v l) (hn : n < 65536) (hl : l.length ≤ 1000000) :
    Calls Tryz.prog 115 #[v, .int .u16 n] w (Laid w (l ++ digits n 2)) := by
  go_enter Tryz.func115, Tryz.ntmps115
  go_wp2_with (go_at_call 135; refine (lay16_any v l n _ hv hn hl).mono ?_; rintro e w' ⟨v', rfl, o1, g1⟩)
  go_ret
  exact ⟨v', rfl, o1, g1⟩

set_option maxRecDepth 100000 in
set_option maxHeartbeats 1000000 in
theorem lay32_any (v : Value) (l : List UInt8) (n : Nat) (w : World) (hv : Bs w v l) (hn : n < 4294967296) (hl : l.length ≤ 1000000) :
    Calls Tryz.prog 144 #[v, .int .u32 n] w (Laid w (l ++ digits n 4)) := by
  obtain ⟨ao, cap, rfl, hcap, hnil, hcell⟩ := hv
  have HC := Lib.hid hcell
  have HN := Lib.hid hnil
  clear hcell hnil
  go_enter Tryz.func144, Tryz.ntmps144
  go_wp2_with (go_at_call 153; refine (width32 _).mono ?_; rintro e w' ⟨rfl, rfl⟩)
  refine wp_loop_rounds 5 ?_
  rw [rounds_succ]
  go_wp2_with (at_builtin; go_must (refine app_first w _ _ _ l ao rfl rfl rfl rfl (fun e => (HN.out e).1) HC.out hl ?_; intro v1 w1 o1 g1))
  rw [rounds_succ]
  go_wp2_with (at_builtin; go_must (refine app_more w _ _ _ _ _ _ _ rfl rfl rfl rfl o1 g1 (by omega) ?_; intro v2 w2 o2 g2))
  rw [rounds_succ]
  go_wp2_with (at_builtin; go_must (refine app_more w _ _ _ _ _ _ _ rfl rfl rfl rfl o2 g2 (by omega) ?_; intro v3 w3 o3 g3))
  rw [rounds_succ]
  go_wp2_with (at_builtin; go_must (refine app_more w _ _ _ _ _ _ _ rfl rfl rfl rfl o3 g3 (by omega) ?_; intro v4 w4 o4 g4))
  rw [rounds_succ]
  go_wp2
  go_ret
  refine ⟨v4, rfl, owns_cast o4 (by simp [digits_length]) ?_, g4⟩
  simp [digits, bcells]
  omega
theorem p32_any (v : Value) (l : List UInt8) (n : Nat) (w : World) (hv : Bs w v l) (hn : n < 4294967296) (hl : l.length ≤ 1000000) :
    Calls Tryz.prog 130 #[v, .int .u32 n] w (Laid w (l ++ digits n 4)) := by
  go_enter Tryz.func130, Tryz.ntmps130
  go_wp2_with (go_at_call 144; refine (lay32_any v l n _ hv hn hl).mono ?_; rintro e w' ⟨v', rfl, o1, g1⟩)
  go_ret
  exact ⟨v', rfl, o1, g1⟩

end Go.Proofs.YtliiooldlooagaaGreatDoor

/-
  What PText lays and what the statements' own 'put' lays, and a slice's text, over this seat's translation; conditions: the slice reads as bytes, at most half a million of them, the text has at most half a million.
-/
namespace Go.Proofs.YtliiooldlooagaaGreatDoor
open Go.RowKit

theorem digits_mod (k : Nat) : ∀ n, digits (n % 256 ^ k) k = digits n k := by
  induction k with
  | zero => intro n; rfl
  | succ k ih =>
    intro n
    have h1 : n % 256 ^ (k + 1) / 256 = n / 256 % 256 ^ k := by
      rw [Nat.pow_succ, Nat.mul_comm, Nat.mod_mul_right_div_self]
    have h2 : n % 256 ^ (k + 1) % 256 = n % 256 := by
      rw [Nat.pow_succ, Nat.mul_comm]; exact Nat.mod_mul_right_mod n 256 _
    simp only [digits, h1, h2, ih]
theorem conv_bs (w : World) (v : Value) (l : List UInt8) (h : Bs w v l) : (convert 59 9 v).run Tryz.prog w = .ok (.string ⟨l.toArray⟩) w := by
  obtain ⟨ao, cap, rfl, _, hnil, hcell⟩ := h
  cases ao with
  | none =>
    have := (hnil rfl).1
    have hl : l = [] := List.eq_nil_of_length_eq_zero this
    subst hl
    exact run_convert_bytes_nil w 59 5 Tryz.underlying59 Tryz.underlying5 _ _ 9 Tryz.underlying9
  | some a =>
    exact run_convert_bytes_back w 59 9 5 a cap l Tryz.underlying59 Tryz.underlying5 Tryz.underlying9 fun j hj => hcell a rfl j _ (by simp [bcells, hj])

theorem gb_own {W w w' : World} {e : TypeId} {size : Nat} {v : Value} {n : Nat} {xs : List Value} (hg : W.grownBy w none) (ho : w.ownsRow W.heap.size e size v n xs) (h2 : w.grownBy w' v.ownBlock) : W.grownBy w' none := by
  refine ⟨h2.os.trans hg.os, h2.tape.trans hg.tape, h2.output.trans hg.output, Nat.le_trans hg.size h2.size, ?_⟩
  intro k hk _
  rw [← hg.block k hk (by simp)]
  refine h2.block k (Nat.lt_of_lt_of_le hk hg.size) ?_
  intro e
  have := (ho.lt k e.symm).1
  omega

theorem ptext_ok (v : Value) (l : List UInt8) (s : ByteArray) (w : World) (hv : Bs w v l) (hs : s.size ≤ 255) (hl : l.length ≤ 500000) :
    Calls Tryz.prog 105 #[v, .string s] w (Laid w (l ++ (digits s.size 1 ++ s.data.toList))) := by
  have hs' : ¬ (255 < (s.size : Int)) := by omega
  go_enter Tryz.func105, Tryz.ntmps105
  obtain ⟨i0, hi, hz0, hz1, hz2⟩ := info_parts Tryz.info8
  go_wp2_with (first | (go_at_call 129; refine (p8_any v l s.size _ hv (by omega) (by omega)).mono ?_; rintro e w1 ⟨v1, rfl, o1, g1⟩) | (at_builtin; go_must (refine Lib.wpList_append_own_string _ rfl _ _ 59 9 rfl w.heap.size 5 i0 Tryz.underlying59 Tryz.underlying9 hi hz0 hz1 hz2 _ _ _ rfl o1 s rfl (by unfold maxLen; simp [digits_length]; omega) (by simp [digits_length]; omega) g1.size ?_; intro v2 w2 o2 g2 _)))
  go_ret
  exact ⟨v2, rfl, owns_cast o2 (by simp [digits_length]; omega) (by simp [bcells, Lib.strCells]), gb_own g1 o1 g2⟩
theorem ptext_long (v : Value) (l : List UInt8) (s : ByteArray) (w : World) (hv : Bs w v l) (hs : 255 < s.size) (hl : l.length ≤ 500000) :
    Calls Tryz.prog 105 #[v, .string s] w (Laid w l) := by
  have hs' : 255 < (s.size : Int) := by omega
  obtain ⟨ao, cap, rfl, hcap, hnil, hcell⟩ := hv
  have HC := Lib.hid hcell
  have HN := Lib.hid hnil
  clear hcell hnil
  cases ao with
  | none =>
    have h0 : l = [] := List.eq_nil_of_length_eq_zero (HN.out rfl).1
    subst h0
    clear HN HC
    go_enter Tryz.func105, Tryz.ntmps105
    go_wp2_with (go_at_call 128; refine (Tryz.bytes_Clone_nil _ _ _).mono ?_; rintro e w' ⟨rfl, rfl⟩)
    go_ret
    exact ⟨_, rfl, World.ownsRow_nil _ _ _ _, gb_refl _ _⟩
  | some a =>
    go_enter Tryz.func105, Tryz.ntmps105
    go_wp2_with (go_at_call 128; refine (Tryz.bytes_Clone_at a l.length cap (l.map fun c => (c.toNat : Int)) _ (by simp) (by omega) (fun i hi => HC.out a rfl i _ (by simp [bcells, hi]))).mono ?_; rintro e w' ⟨v1, rfl, o1, _, b1⟩)
    go_ret
    exact ⟨_, rfl, owns_cast o1 rfl (by simp only [bcells, List.map_map]; rfl), gb_of_below b1⟩

end Go.Proofs.YtliiooldlooagaaGreatDoor

/-
  What the document's answers Bytes and Text lay, over this seat's translation: the digits of a number, a text behind its length; conditions: a width of at most 8, a text of at most half a million bytes.
-/
namespace Go.Proofs.YtliiooldlooagaaGreatDoor
open Go.RowKit

theorem bs_one (w : World) (z : Int) (c : UInt8) (h : z = c.toNat) : Bs (w.alloc (.cells #[.int .u8 z] 5)) (.slice (some ⟨w.heap.size, 0, none⟩) 1 1) [c] := by
  subst h
  refine ⟨some ⟨w.heap.size, 0, none⟩, 1, rfl, Nat.le_refl _, (fun e => by cases e), ?_⟩
  intro a e j u hj
  cases e
  exact cell_new w (.int .u8 (c.toNat : Int)) 5 j u (by simpa [bcells] using hj)
theorem str_append (a b : List UInt8) : (⟨a.toArray⟩ : ByteArray) ++ (⟨b.toArray⟩ : ByteArray) = ⟨(a ++ b).toArray⟩ := by
  apply ByteArray.ext; simp

end Go.Proofs.YtliiooldlooagaaGreatDoor
