/-
  A slice of fields that reads as a list, and what lastTag, mayBe and refused answer, over this seat's translation; conditions: the slice reads as a list of fields whose numbers fit.
-/
import Derived.Test.YtcifabichcjjjaaDoorVSpec
import Derived.Deep.Slices
import Derived.Outline
namespace Go.Proofs.YtcifabichcjjjaaDoor
open Go.RowKit

theorem addr_add (a : Addr) (i j : Nat) : (a.add i).add j = a.add (i + j) := by
  unfold Addr.add
  by_cases hi : i = 0 <;> by_cases hj : j = 0 <;> simp [hi, hj, Nat.add_assoc]
theorem addr_succ (a : Addr) (i j : Nat) : (⟨(a.add i).block, (a.add i).off + (j + 1), none⟩ : Addr) = a.add (i + (j + 1)) := by
  rw [← addr_add]; rfl
/-- Fields as cells. -/
def fcells (l : List Fd) : List Value := l.flatMap Fd.cells
theorem fcells_length (l : List Fd) : (fcells l).length = l.length * 4 := by
  induction l with
  | nil => rfl
  | cons f l ih => simp only [fcells, List.flatMap_cons, List.length_append] at ih ⊢; rw [ih]; simp [Fd.cells]; omega
theorem fcells_append (l r : List Fd) : fcells (l ++ r) = fcells l ++ fcells r := by simp [fcells]
theorem fcells_at (l : List Fd) : ∀ (i : Nat) (f : Fd), l[i]? = some f → ∀ k, k < 4 → (fcells l)[i * 4 + k]? = f.cells[k]? := by
  induction l with
  | nil => intro i f h; simp at h
  | cons g l ih =>
    intro i f h k hk
    have e : fcells (g :: l) = g.cells ++ fcells l := rfl
    have hg : g.cells.length = 4 := rfl
    cases i with
    | zero =>
      have : g = f := by simpa using h
      subst this
      rw [e, List.getElem?_append_left (by omega)]; simp
    | succ i =>
      rw [e, List.getElem?_append_right (by omega), show (i + 1) * 4 + k - g.cells.length = i * 4 + k by omega]
      exact ih i f (by simpa using h) k hk
/-- A slice that reads as these fields. -/
def Fs (w : World) (v : Value) (l : List Fd) : Prop :=
  ∃ (ao : Option Addr) (cap : Nat), v = .slice ao l.length cap ∧ l.length ≤ cap ∧ (ao = none → l.length = 0 ∧ cap = 0) ∧ ∀ a, ao = some a → ∀ j u, (fcells l)[j]? = some u → w.cell? (a.add j) = some u
theorem Fs.nil (w : World) : Fs w (.slice none 0 0) [] := ⟨none, 0, rfl, Nat.le_refl _, fun _ => ⟨rfl, rfl⟩, fun _ h => by cases h⟩
theorem Fs.keep0 {w w' : World} {v : Value} {l : List Fd} (h : Fs w v l) (g : w.grownBy w' none) : Fs w' v l := by
  obtain ⟨ao, cap, h1, h2, h3, h4⟩ := h
  exact ⟨ao, cap, h1, h2, h3, fun a e j u hj => g.cell (h4 a e j u hj) (by simp)⟩
theorem Fs.of_owns {w : World} {base : Nat} {v : Value} {l : List Fd} (h : w.ownsRow base 29 4 v l.length (fcells l)) : Fs w v l := by
  rcases h.2 with ⟨rfl, hn⟩ | ⟨g, cap, cur, rfl, hb, hh, hc, hm, hs, ht⟩
  · exact ⟨none, 0, by rw [hn], by omega, fun _ => ⟨hn, rfl⟩, fun _ e => by cases e⟩
  · refine ⟨some ⟨g, 0, none⟩, cap, rfl, hc, (fun e => by cases e), ?_⟩
    intro a e j u hj
    cases e
    exact h.cells (g := g) rfl j u hj
/-- The cells of the field at a place. -/
def At (w : World) (a : Addr) (i : Nat) (f : Fd) : Prop :=
  w.cell? (a.add (i * 4)) = some (.int .i64 f.tag) ∧ w.cell? ⟨(a.add (i * 4)).block, (a.add (i * 4)).off + 1, none⟩ = some (.bool f.text) ∧ w.cell? ⟨(a.add (i * 4)).block, (a.add (i * 4)).off + 2, none⟩ = some (.int .u64 f.n) ∧ w.cell? ⟨(a.add (i * 4)).block, (a.add (i * 4)).off + 3, none⟩ = some (.string f.s)
theorem at_of {w : World} {a : Addr} {l : List Fd} (h : ∀ j u, (fcells l)[j]? = some u → w.cell? (a.add j) = some u) {i : Nat} {f : Fd} (hi : l[i]? = some f) : At w a i f := by
  refine ⟨?_, ?_, ?_, ?_⟩
  · exact h _ _ (by rw [show i * 4 = i * 4 + 0 from rfl, fcells_at l i f hi 0 (by omega)]; rfl)
  · rw [show (1 : Nat) = 0 + 1 from rfl, addr_succ]; exact h _ _ (by rw [fcells_at l i f hi (0 + 1) (by omega)]; rfl)
  · rw [show (2 : Nat) = 1 + 1 from rfl, addr_succ]; exact h _ _ (by rw [fcells_at l i f hi (1 + 1) (by omega)]; rfl)
  · rw [show (3 : Nat) = 2 + 1 from rfl, addr_succ]; exact h _ _ (by rw [fcells_at l i f hi (2 + 1) (by omega)]; rfl)

set_option maxHeartbeats 400000 in
theorem lastTag_any (v : Value) (l : List Fd) (w : World) (hv : Fs w v l) (hl : l.length ≤ 9223372036854775807) :
    Calls Tryd.prog 23 #[v] w fun e w' => e = .returned (.int .i64 (lastT l)) ∧ w = w' := by
  obtain ⟨ao, cap, rfl, hcap, hnil, hcell⟩ := hv
  rcases List.eq_nil_or_concat l with rfl | ⟨r, f, hrf⟩
  · have HN := Lib.hid hnil
    clear hnil hcell
    go_enter Tryd.func23, Tryd.ntmps23
    go_wp2
    go_ret
    exact ⟨rfl, rfl⟩
  · rw [List.concat_eq_append] at hrf
    subst hrf
    cases ao with
    | none => have := (hnil rfl).1; simp at this
    | some a =>
      have hat := at_of (hcell a rfl) (i := r.length) (f := f) (by simp)
      have h0 := hat.1
      have hlast : lastT (r ++ [f]) = f.tag := by simp [lastT]
      have HL := Lib.hid hlast
      clear hat hcell hnil hlast
      have hn : (r ++ [f]).length = r.length + 1 := by simp
      rw [hn] at hl hcap ⊢
      rw [HL.out]
      clear hn
      go_enter Tryd.func23, Tryd.ntmps23
      go_wp2
      go_ret
      exact ⟨rfl, rfl⟩

theorem empty_iff (s : ByteArray) : s.toList.isEmpty = (s.size == 0) := by
  rw [ByteArray.toList_eq, ByteArray.size]
  cases h : s.data.toList with
  | nil => have : s.data = #[] := by simpa using h
           simp [this]
  | cons x l => have : s.data.size = l.length + 1 := by rw [← Array.length_toList, h]; rfl
                simp [this]
theorem zero_iff (n : Nat) : ((n : Int) == 0) = (n == 0) := by
  cases n with
  | zero => rfl
  | succ n => simp; omega
theorem mayB_lo (tag : Int) (text : Bool) (n : Nat) (s : ByteArray) (h : tag < 1) : mayB ⟨tag, text, n, s⟩ = false := by
  have e : decide (1 ≤ tag) = false := by simp; omega
  simp [mayB, e]
theorem mayB_hi (tag : Int) (text : Bool) (n : Nat) (s : ByteArray) (h : 63 < tag) : mayB ⟨tag, text, n, s⟩ = false := by
  have e : decide (tag ≤ 63) = false := by simp; omega
  simp [mayB, e]
theorem mayB_mid (tag : Int) (text : Bool) (n : Nat) (s : ByteArray) (h1 : ¬ tag < 1) (h2 : ¬ 63 < tag) : mayB ⟨tag, text, n, s⟩ = (if text then n == 0 else s.size == 0) := by
  have e1 : decide (1 ≤ tag) = true := by simp; omega
  have e2 : decide (tag ≤ 63) = true := by simp; omega
  simp [mayB, e1, e2]

set_option maxHeartbeats 400000 in
theorem mayBe_any (tag : Int) (text : Bool) (n : Nat) (s : ByteArray) (w : World) :
    Calls Tryd.prog 38 #[.agg #[.int .i64 tag, .bool text, .int .u64 n, .string s]] w fun e w' => e = .returned (.bool (mayB ⟨tag, text, n, s⟩)) ∧ w.grownBy w' none := by
  by_cases h1 : tag < 1
  · rw [mayB_lo tag text n s h1]
    go_enter Tryd.func38, Tryd.ntmps38
    go_wp2
    go_ret
    exact ⟨rfl, gb_alloc _ _ _⟩
  · by_cases h2 : 63 < tag
    · rw [mayB_hi tag text n s h2]
      go_enter Tryd.func38, Tryd.ntmps38
      go_wp2
      go_ret
      exact ⟨rfl, gb_alloc _ _ _⟩
    · have HM := Lib.hid (mayB_mid tag text n s h1 h2)
      cases text
      · go_enter Tryd.func38, Tryd.ntmps38
        go_wp2
        go_ret
        refine ⟨?_, gb_alloc _ _ _⟩
        rw [HM.out]
        exact congrArg (fun b => Ending.returned (Value.bool b)) (empty_iff s)
      · go_enter Tryd.func38, Tryd.ntmps38
        go_wp2
        go_ret
        refine ⟨?_, gb_alloc _ _ _⟩
        rw [HM.out]
        exact congrArg (fun b => Ending.returned (Value.bool b)) (zero_iff n)

set_option maxHeartbeats 400000 in
theorem refused_any (tag : Int) (text : Bool) (n : Nat) (s : ByteArray) (ahead : Int) (w : World) (hs : s.size ≤ 9223372036854775807) :
    Calls Tryd.prog 22 #[.agg #[.int .i64 tag, .bool text, .int .u64 n, .string s], .int .i64 ahead] w fun e w' => e = .returned (.int .i64 (refB ⟨tag, text, n, s⟩ ahead)) ∧ w.grownBy w' none := by
  have HM := Lib.hid (show refB ⟨tag, text, n, s⟩ ahead = if mayB ⟨tag, text, n, s⟩ = false then 2 else if tag ≤ ahead then 7 else if 2000 < s.size then 4 else 0 from rfl)
  have hmay := mayBe_any tag text n s
  cases hb : mayB ⟨tag, text, n, s⟩ with
  | false =>
    rw [hb] at hmay
    have e1 := HM.out
    rw [hb, if_pos rfl] at e1
    rw [e1]
    clear e1 HM hb
    have HMay := Lib.hid hmay
    clear hmay
    go_enter Tryd.func22, Tryd.ntmps22
    go_wp2_with (go_at_call 38; refine (HMay.out _).mono ?_; rintro e w1 ⟨rfl, g1⟩)
    go_ret
    exact ⟨rfl, gb_trans (gb_alloc _ _ _) g1⟩
  | true =>
    rw [hb] at hmay
    have e1 := HM.out
    rw [hb, if_neg (by simp)] at e1
    clear HM hb
    have HMay := Lib.hid hmay
    have E1 := Lib.hid e1
    clear hmay e1
    obtain ⟨w0, hw0⟩ : ∃ w0 : World, w0 = w.alloc (.cells #[.int .i64 tag, .bool text, .int .u64 n, .string s] 29) := ⟨_, rfl⟩
    have k0 : Blk w0 w.heap.size 29 #[.int .i64 tag, .bool text, .int .u64 n, .string s] := by rw [hw0]; exact Blk.mk _ _ _
    have g0 : w.grownBy w0 none := by rw [hw0]; exact gb_alloc _ _ _
    have HW := Lib.hid hw0
    clear hw0
    by_cases h1 : tag ≤ ahead
    · go_enter Tryd.func22, Tryd.ntmps22
      go_wp2_with fail
      rw [← HW.out]
      refine (HMay.out _).mono ?_
      rintro e w1 ⟨rfl, g1⟩
      have k1 := k0.keep0 g1
      have c0 := Blk.cell k1 0 rfl
      have c3 := Blk.cell k1 3 rfl
      go_wp2
      go_ret
      refine ⟨?_, gb_trans g0 g1⟩
      rw [E1.out, if_pos h1]; rfl
    · have h1' : ahead < tag := by omega
      by_cases h2 : 2000 < s.size
      · have h2' : 2000 < (s.size : Int) := by omega
        go_enter Tryd.func22, Tryd.ntmps22
        go_wp2_with fail
        rw [← HW.out]
        refine (HMay.out _).mono ?_
        rintro e w1 ⟨rfl, g1⟩
        have k1 := k0.keep0 g1
        have c0 := Blk.cell k1 0 rfl
        have c3 := Blk.cell k1 3 rfl
        go_wp2
        go_ret
        refine ⟨?_, gb_trans g0 g1⟩
        rw [E1.out, if_neg (by omega), if_pos h2]; rfl
      · have h2' : (s.size : Int) ≤ 2000 := by omega
        go_enter Tryd.func22, Tryd.ntmps22
        go_wp2_with fail
        rw [← HW.out]
        refine (HMay.out _).mono ?_
        rintro e w1 ⟨rfl, g1⟩
        have k1 := k0.keep0 g1
        have c0 := Blk.cell k1 0 rfl
        have c3 := Blk.cell k1 3 rfl
        go_wp2
        go_ret
        refine ⟨?_, gb_trans g0 g1⟩
        rw [E1.out, if_neg (by omega), if_neg h2]; rfl
end Go.Proofs.YtcifabichcjjjaaDoor
