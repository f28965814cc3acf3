/-
  What the closure of vary.Read takes of the bytes that are left, over this seat's translation; conditions: the variable 'left' is a block of its own that holds a slice of bytes, at most a million of them.
-/
import Derived.Test.YtcifabichcjjjaaDoorVMem
import Derived.WalkSpells
namespace Go.Proofs.YtcifabichcjjjaaDoor
open Go.RowKit

/-- The variable 'left': a block of its own, whose slice reads as these bytes. -/
def Lf (w : World) (b : Nat) (l : List UInt8) : Prop :=
  ∃ (ao : Option Addr) (cap : Nat), Blk w b 59 #[.slice ao l.length cap] ∧ l.length ≤ cap ∧ (ao = none → l.length = 0 ∧ cap = 0) ∧ ∀ a, ao = some a → a.block < b ∧ ∀ j u, (bcells l)[j]? = some u → w.cell? (a.add j) = some u
theorem Lf.lt {w : World} {b : Nat} {l : List UInt8} (h : Lf w b l) : b < w.heap.size := by
  obtain ⟨_, _, h, _⟩ := h; exact h.lt
theorem Lf.keep0 {w w' : World} {b : Nat} {l : List UInt8} (h : Lf w b l) (g : w.grownBy w' none) : Lf w' b l := by
  obtain ⟨ao, cap, h1, h2, h3, h4⟩ := h
  exact ⟨ao, cap, h1.keep0 g, h2, h3, fun a e => ⟨(h4 a e).1, fun j u hj => g.cell ((h4 a e).2 j u hj) (by simp)⟩⟩
theorem add_block (a : Addr) (n : Nat) : (a.add n).block = a.block := by unfold Addr.add; split <;> rfl
theorem bcells_drop (l : List UInt8) (k : Nat) : bcells (l.drop k) = (bcells l).drop k := by simp [bcells]
theorem bcells_take (l : List UInt8) (k : Nat) : bcells (l.take k) = (bcells l).take k := by simp [bcells]
/-- What was taken, and what is left. -/
def Took (w : World) (b : Nat) (l : List UInt8) (k : Nat) (e : Ending) (w' : World) : Prop :=
  ∃ v, e = .returned (.tuple #[v, .bool true]) ∧ Bs w' v (l.take k) ∧ Lf w' b (l.drop k) ∧ w.grownBy w' (some b)

theorem took_of {w : World} {b : Nat} {l : List UInt8} {k cap : Nat} {a : Addr} (hk : k ≤ l.length) (hc : l.length ≤ cap) (hb : Blk w b 59 #[.slice (some a) l.length cap]) (ha : a.block < b)
    (hcell : ∀ j u, (bcells l)[j]? = some u → w.cell? (a.add j) = some u) (x : Addr) (hx : x = if cap = k then a else a.add k) :
    Took w b l k (.returned (.tuple #[.slice (some a) k k, .bool true])) (w.setCell ⟨b, 0, none⟩ (.slice (some x) (l.length - k) (cap - k))) := by
  have hg := gb_set w b 0 none (.slice (some x) (l.length - k) (cap - k))
  have hne : ∀ n, some (a.add n).block ≠ some b := fun n => ne_some (by rw [add_block]; omega)
  refine ⟨_, rfl, ⟨some a, k, by simp [Nat.min_eq_left hk], by simp; omega, (fun e => by cases e), ?_⟩, ⟨some x, cap - k, by simpa using Blk.set hb 0 _, by simp; omega, (fun e => by cases e), ?_⟩, hg⟩
  · intro a' e j u hj
    cases e
    refine hg.cell (hcell j u ?_) (hne j)
    rw [bcells_take, List.getElem?_take] at hj
    split at hj
    · exact hj
    · cases hj
  · intro a' e
    cases e
    by_cases he : cap = k
    · rw [if_pos he] at hx
      refine ⟨by rw [hx]; exact ha, fun j u hj => ?_⟩
      rw [bcells_drop, List.drop_of_length_le (by rw [bcells_length]; omega)] at hj
      simp at hj
    · rw [if_neg he] at hx
      refine ⟨by rw [hx, add_block]; exact ha, fun j u hj => ?_⟩
      rw [bcells_drop, List.getElem?_drop] at hj
      have h1 := hg.cell (hcell _ u hj) (hne _)
      rw [← addr_add, ← hx] at h1
      exact h1

set_option maxHeartbeats 400000 in
theorem take_ok (b : Nat) (l : List UInt8) (k : Nat) (w : World) (h : Lf w b l) (hk : k ≤ l.length) (hl : l.length ≤ 1000000) :
    Calls Tryd.prog 27 #[.int .i64 k, .pointer (some ⟨b, 0, none⟩)] w (Took w b l k) := by
  obtain ⟨ao, cap, hb, hc, hnil, hcell⟩ := h
  cases ao with
  | none =>
    obtain ⟨h1, h2⟩ := hnil rfl
    have h3 : l = [] := List.eq_nil_of_length_eq_zero h1
    subst h3
    obtain rfl : k = 0 := by simpa using hk
    subst h2
    have c0 := Blk.cell hb 0 rfl
    have f0 := Blk.free hb 0
    have HB := Lib.hid hb
    clear hnil hcell hc hl h1 hb
    go_enter Tryd.func27, Tryd.ntmps27
    go_wp2
    go_ret2
    refine ⟨_, rfl, Bs.nil _, ⟨none, 0, ?_, Nat.le_refl _, fun _ => ⟨rfl, rfl⟩, fun _ e => by cases e⟩, gb_set _ _ _ _ _⟩
    exact Blk.set HB.out 0 _
  | some a =>
    have c0 := Blk.cell hb 0 rfl
    have f0 := Blk.free hb 0
    have HB := Lib.hid hb
    have HC := Lib.hid hcell
    clear hnil hcell hb
    by_cases he : cap = k
    · go_enter Tryd.func27, Tryd.ntmps27
      go_wp2
      go_ret2
      have h0 := took_of hk hc HB.out (HC.out a rfl).1 (HC.out a rfl).2 a (by simp [he])
      rw [show cap - k = 0 by omega] at h0
      exact h0
    · go_enter Tryd.func27, Tryd.ntmps27
      go_wp2
      go_ret2
      exact took_of hk hc HB.out (HC.out a rfl).1 (HC.out a rfl).2 (a.add k) (by simp [he])

set_option maxHeartbeats 400000 in
theorem take_no (b : Nat) (l : List UInt8) (k : Nat) (w : World) (h : Lf w b l) (hk : l.length < k) :
    Calls Tryd.prog 27 #[.int .i64 k, .pointer (some ⟨b, 0, none⟩)] w fun e w' => e = .returned (.tuple #[.slice none 0 0, .bool false]) ∧ w = w' := by
  obtain ⟨ao, cap, hb, hc, hnil, hcell⟩ := h
  have c0 := Blk.cell hb 0 rfl
  clear hnil hcell hb hc
  go_enter Tryd.func27, Tryd.ntmps27
  go_wp2
  go_ret2
  exact ⟨rfl, rfl⟩
/-- The closure's value. -/
def clo (b : Nat) : Value := .func (.func 27) #[] #[.pointer (some ⟨b, 0, none⟩)]

set_option maxHeartbeats 400000 in
theorem readText_long (b n : Nat) (w : World) (hn : 2000 < n) (hn2 : n < 18446744073709551616) :
    Calls Tryd.prog 42 #[.func (.func 27) #[] #[.pointer (some ⟨b, 0, none⟩)], .int .u64 n] w fun e w' => e = .returned (.tuple #[.string ⟨#[]⟩, .int .i64 4]) ∧ w = w' := by
  have hn' : 2000 < (n : Int) := by omega
  go_enter Tryd.func42, Tryd.ntmps42
  go_wp2
  go_ret2
  exact ⟨rfl, rfl⟩
set_option maxHeartbeats 400000 in
theorem readText_short (b n : Nat) (l : List UInt8) (w : World) (h : Lf w b l) (hn : n ≤ 2000) (hl : l.length < n) :
    Calls Tryd.prog 42 #[.func (.func 27) #[] #[.pointer (some ⟨b, 0, none⟩)], .int .u64 n] w fun e w' => e = .returned (.tuple #[.string ⟨#[]⟩, .int .i64 3]) ∧ w = w' := by
  have hn' : (n : Int) ≤ 2000 := by omega
  go_enter Tryd.func42, Tryd.ntmps42
  go_wp2_with (go_at_call 27; refine (take_no b l n _ h hl).mono ?_; rintro e w1 ⟨rfl, rfl⟩)
  go_ret2
  exact ⟨rfl, rfl⟩
theorem conv_bs (w : World) (v : Value) (l : List UInt8) (h : Bs w v l) : (convert 59 9 v).run Tryd.prog w = .ok (.string ⟨l.toArray⟩) w := by
  obtain ⟨ao, cap, rfl, _, hnil, hcell⟩ := h
  cases ao with
  | none =>
    have := (hnil rfl).1
    have hl : l = [] := List.eq_nil_of_length_eq_zero this
    subst hl
    exact run_convert_bytes_nil w 59 5 Tryd.underlying59 Tryd.underlying5 _ _ 9 Tryd.underlying9
  | some a =>
    exact run_convert_bytes_back w 59 9 5 a cap l Tryd.underlying59 Tryd.underlying5 Tryd.underlying9 fun j hj => hcell a rfl j _ (by simp [bcells, hj])
/-- A text was read. -/
def TextGot (w : World) (b : Nat) (l : List UInt8) (n : Nat) (e : Ending) (w' : World) : Prop :=
  e = .returned (.tuple #[.string ⟨(l.take n).toArray⟩, .int .i64 0]) ∧ Lf w' b (l.drop n) ∧ w.grownBy w' (some b)
set_option maxHeartbeats 400000 in
theorem readText_ok (b n : Nat) (l : List UInt8) (w : World) (h : Lf w b l) (hn : n ≤ 2000) (hl : n ≤ l.length) (hl2 : l.length ≤ 1000000) :
    Calls Tryd.prog 42 #[.func (.func 27) #[] #[.pointer (some ⟨b, 0, none⟩)], .int .u64 n] w (TextGot w b l n) := by
  have hn' : (n : Int) ≤ 2000 := by omega
  go_enter Tryd.func42, Tryd.ntmps42
  go_wp2_with (go_at_call 27; refine (take_ok b l n _ h hl hl2).mono ?_; rintro e w1 ⟨v1, rfl, b1, l1, g1⟩; have c1 := conv_bs _ _ _ b1; have B1 := Lib.hid b1; clear b1)
  go_ret2
  exact ⟨rfl, l1, g1⟩
end Go.Proofs.YtcifabichcjjjaaDoor
