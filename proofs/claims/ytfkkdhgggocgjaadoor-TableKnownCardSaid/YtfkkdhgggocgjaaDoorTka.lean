/-
  A table of the program's own, the faults and the rows of numbers that lie beside it, and each call that TableKnown makes upon it, over this seat's translation; conditions: those that each law states.
-/
import Derived.Test.YtfkkdhgggocgjaaDoorTs
namespace Go.Proofs.YtfkkdhgggocgjaaDoor
open Go.RowKit

/-- A table behind a world, with faults and rows of numbers that lie beside it. -/
structure Ks (w : World) (p : Nat) (s : TB) (F : List (Nat × Nat × Nat)) (O : List (Value × List Nat)) (W : World) : Prop where
  t : PT W p s
  np : w.heap.size ≤ p
  g : w.grownBy W none
  h : Hd W
  f : ∀ x ∈ F, Ft W x.1 (x.2.1 : Nat) (x.2.2 : Nat) ∧ x.1 ≠ p
  o : ∀ x ∈ O, Far p W x.1 x.2
section
variable {w : World} {p : Nat} {s : TB} {F : List (Nat × Nat × Nat)} {O : List (Value × List Nat)} {W : World}
theorem Ks.keep0 {W' : World} (h : Ks w p s F O W) (g : W.grownBy W' none) : Ks w p s F O W' :=
  ⟨h.t.keep0 g, h.np, gb_trans h.g g, h.h.keep0 g, fun x hx => ⟨(h.f x hx).1.keep0 g, (h.f x hx).2⟩, fun x hx => (h.o x hx).keep0 g⟩
theorem Ks.set {W' : World} {s' : TB} (h : Ks w p s F O W) (h0 : 0 < w.heap.size) (hp : PT W' p s') (g : W.grownBy W' (some p)) : Ks w p s' F O W' :=
  ⟨hp, h.np, gb_step h.g g h.np, h.h.keep g (ne_some (by have := h.np; omega)), fun x hx => ⟨(h.f x hx).1.keep g (ne_some (h.f x hx).2), (h.f x hx).2⟩, fun x hx => (h.o x hx).keepP g⟩
theorem Ks.fault {a c q : Nat} (h : Ks w p s F O W) (hf : Ft W a (c : Nat) (q : Nat)) (ha : a ≠ p) : Ks w p s ((a, c, q) :: F) O W :=
  ⟨h.t, h.np, h.g, h.h, fun x hx => by
    rcases List.mem_cons.1 hx with e | e
    · subst e; exact ⟨hf, ha⟩
    · exact h.f x e, h.o⟩
theorem Ks.row {v : Value} {l : List Nat} (h : Ks w p s F O W) (hv : Far p W v l) : Ks w p s F ((v, l) :: O) W :=
  ⟨h.t, h.np, h.g, h.h, h.f, fun x hx => by
    rcases List.mem_cons.1 hx with e | e
    · subst e; exact hv
    · exact h.o x e⟩
theorem k_bad (i : Int) (t : ByteArray) (c q : Nat) (hc : loadC i t = (c, q)) (hn : c ≠ 0) (ht : t.size ≤ 9223372036854775807) (h0 : 0 < w.heap.size) (h : Ks w p s F O W) :
    Calls Tryd.prog 14 #[.pointer (some ⟨p, 0, none⟩), .int .i64 i, .string t] W fun e W' => ∃ a : Nat, e = .returned (.iface 67 (.pointer (some ⟨a, 0, none⟩))) ∧ Ks w p s ((a, c, q) :: F) O W' :=
  (load_any p s i t W h.t h.h ht).mono fun _ _ x => by
    obtain ⟨x1, x2, _, x4⟩ := x
    have hs : loadF s i t = s := if_neg (by rw [hc]; exact hn)
    rw [hs] at x1
    rw [hc] at x4
    obtain ⟨a, e, ha, hf⟩ := x4 hn
    exact ⟨a, e, (h.set h0 x1 x2).fault hf (fun e => absurd (e ▸ ha) (Nat.not_le.2 h.t.lt))⟩
theorem k_ok (i : Int) (t : ByteArray) (s' : TB) (hc : (loadC i t).1 = 0) (hs : loadF s i t = s') (ht : t.size ≤ 9223372036854775807) (h0 : 0 < w.heap.size) (h : Ks w p s F O W) :
    Calls Tryd.prog 14 #[.pointer (some ⟨p, 0, none⟩), .int .i64 i, .string t] W fun e W' => e = .returned .nilIface ∧ Ks w p s' F O W' :=
  (load_any p s i t W h.t h.h ht).mono fun _ _ x => ⟨x.2.2.1 hc, h.set h0 (hs ▸ x.1) x.2.1⟩
theorem k_is (a c q : Nat) (hm : (a, c, q) ∈ F) (hc : (((c : Nat) : Int) == 0) = false) (h : Ks w p s F O W) :
    Calls Tryd.prog 13 #[.iface 67 (.pointer (some ⟨a, 0, none⟩)), .agg #[.int .i64 (c : Nat), .int .i64 (q : Nat)]] W fun e W' => e = .returned (.bool true) ∧ Ks w p s F O W' :=
  (law_is_fault a (c : Nat) (q : Nat) W h.h (h.f _ hm).1 hc).mono fun _ _ x => ⟨x.1, h.keep0 x.2⟩
theorem k_set (i v : Int) (e' : Int) (s' : TB) (hE : setE i v = e') (hS : setF s i v = s') (h0 : 0 < w.heap.size) (h : Ks w p s F O W) :
    Calls Tryd.prog 8 #[.pointer (some ⟨p, 0, none⟩), .int .i64 i, .int .i64 v] W fun e W' => e = .returned (.int .i64 e') ∧ Ks w p s' F O W' :=
  (set_k p s s' i v e' hE hS W h.t).mono fun _ _ x => ⟨x.1, h.set h0 x.2.1 x.2.2⟩
theorem k_dirty (l : List Nat) (hE : dirtyF s.D = l) (h : Ks w p s F O W) :
    Calls Tryd.prog 25 #[.pointer (some ⟨p, 0, none⟩)] W fun e W' => ∃ ao cap, e = .returned (.slice ao l.length cap) ∧ Ks w p s F ((.slice ao l.length cap, l) :: O) W' :=
  (dirty_k p s l hE W h.t).mono fun _ _ x => by
    obtain ⟨v, rfl, o, g⟩ := x
    obtain ⟨ao, cap, rfl⟩ := nts_shape (Sl_owns o)
    exact ⟨ao, cap, rfl, (h.keep0 g).row (far_of o h.t)⟩
theorem k_sectors (l : List Nat) (hE : secsF s.P = l) (h : Ks w p s F O W) :
    Calls Tryd.prog 26 #[.pointer (some ⟨p, 0, none⟩)] W fun e W' => ∃ ao cap, e = .returned (.slice ao l.length cap) ∧ Ks w p s F ((.slice ao l.length cap, l) :: O) W' :=
  (sectors_k p s l hE W h.t).mono fun _ _ x => by
    obtain ⟨v, rfl, o, g⟩ := x
    obtain ⟨ao, cap, rfl⟩ := nts_shape (Sl_owns o)
    exact ⟨ao, cap, rfl, (h.keep0 g).row (far_of o h.t)⟩
theorem k_chunk (i : Int) (h : Ks w p s F O W) :
    Calls Tryd.prog 24 #[.pointer (some ⟨p, 0, none⟩), .int .i64 i] W fun e W' => e = .returned (.string ⟨(chunkF s.P i).toArray⟩) ∧ Ks w p s F O W' :=
  (chunkT_any p s i W h.t).mono fun _ _ x => ⟨x.1, h.keep0 x.2⟩
theorem k_works (h : Ks w p s F O W) : Calls Tryd.prog 23 #[] W fun e W' => e = .returned (.bool true) ∧ Ks w p s F O W' :=
  (works_any W).mono fun _ _ x => ⟨x.1, h.keep0 x.2⟩
theorem k_loadnil (i : Int) (t : ByteArray) (h : Ks w p s F O W) : Calls Tryd.prog 14 #[.pointer none, .int .i64 i, .string t] W fun e W' => ∃ a : Nat, e = .returned (.iface 67 (.pointer (some ⟨a, 0, none⟩))) ∧ Ks w p s ((a, 1, 0) :: F) O W' :=
  (load_nil i t W).mono fun _ _ x => ⟨_, x.1, (h.keep0 x.2.2).fault x.2.1 (Nat.ne_of_gt h.t.lt)⟩
theorem k_ints (v : Value) (l : List Nat) (hl : l.length ≤ 1000000) (n : Nat) (hn : n = l.length) (hm : (v, l) ∈ O) (h : Ks w p s F O W) :
    Calls Tryd.prog 28 #[v, .slice (some ⟨W.heap.size, 0, none⟩) n n] (W.alloc (.cells (intsC l).toArray 3)) fun e W' => e = .returned (.bool true) ∧ Ks w p s F O W' := by
  have h' := h.keep0 (gb_alloc W (.cells (intsC l).toArray 3) none)
  exact (ints_same v _ l _ (h'.o _ hm).nts (nts_list W l n hn) hl).mono fun _ _ x => ⟨x.1, h'.keep0 x.2⟩
end
/-- The texts of TableKnown. -/
def kZ : ByteArray := ⟨Array.replicate 240 0⟩
def kX0 : ByteArray := ⟨Array.replicate 239 0⟩
def kX1 : ByteArray := ⟨Array.replicate 238 0 ++ #[3, 255]⟩
def kX2 : ByteArray := ⟨Array.replicate 4 0 ++ #[4, 0] ++ Array.replicate 234 0⟩
def kX3 : ByteArray := ⟨Array.replicate 238 0 ++ #[0, 1]⟩
def kX4 : ByteArray := ⟨Array.replicate 2 0 ++ #[255, 255] ++ Array.replicate 236 0⟩
def m1 : TB := loadF newF 7 kX1
def m2 : TB := setF m1 841 9
def m3 : TB := loadF m2 7 kZ
theorem kc1 : loadC 8 kZ = (2, 0) := by decide +kernel
theorem kc2 : loadC (-1) kZ = (2, 0) := by decide +kernel
theorem kc3 : loadC 0 kX0 = (4, 239) := by decide +kernel
theorem kc4 : (loadC 7 kX1).1 = 0 := by decide +kernel
theorem kc5 : loadC 7 kX2 = (5, 4) := by decide +kernel
theorem kc6 : loadC 7 kX3 = (5, 238) := by decide +kernel
theorem kc7 : loadC 7 kX4 = (5, 2) := by decide +kernel
theorem kc8 : (loadC 7 kZ).1 = 0 := by decide +kernel
theorem kd2 : dirtyF m2.D = [7] := by decide +kernel
theorem kd3 : dirtyF m3.D = [] := by decide +kernel
theorem ks3 : secsF m3.P = [] := by decide +kernel
theorem kl3 : (⟨(chunkF m3.P 0).toArray⟩ : ByteArray).size = 240 := by decide +kernel
theorem kx0 : kZ.extract 0 239 = kX0 := by decide +kernel
theorem kx1 : kZ.extract 0 238 ++ ⟨#[3, 255]⟩ = kX1 := by decide +kernel
theorem kx2 : kZ.extract 0 4 ++ ⟨#[4, 0]⟩ ++ kZ.extract 6 240 = kX2 := by decide +kernel
theorem kx3 : kZ.extract 0 238 ++ ⟨#[0, 1]⟩ = kX3 := by decide +kernel
theorem kx4 : kZ.extract 0 2 ++ ⟨#[255, 255]⟩ ++ kZ.extract 4 240 = kX4 := by decide +kernel
def kz : List UInt8 := List.replicate 240 0
/-- Two hundred and forty zeros, made and read as a text. -/
theorem k_make (w : World) : (Instr.makeSlice 33 (.int .i64 240) (.int .i64 240)).run Tryd.prog w = .ok (.slice (some ⟨w.heap.size, 0, none⟩) 240 240) (w.alloc (.cells (bcells kz).toArray 5)) := by kernel_rfl
theorem k_conv (w : World) : (convert 33 9 (.slice (some ⟨w.heap.size, 0, none⟩) 240 240)).run Tryd.prog (w.alloc (.cells (bcells kz).toArray 5)) = .ok (.string kZ) (w.alloc (.cells (bcells kz).toArray 5)) := by
  have hb : Bs (w.alloc (.cells (bcells kz).toArray 5)) (.slice (some ⟨w.heap.size, 0, none⟩) 240 240) kz := by
    refine ⟨some ⟨w.heap.size, 0, none⟩, 240, rfl, by exact Nat.le_refl _, (fun e => by cases e), ?_⟩
    intro a e j u hj
    cases e
    rw [add_at, Nat.zero_add]
    exact (Blk.mk w 5 (bcells kz).toArray).cell j (by rw [List.getElem?_toArray]; exact hj)
  have h := conv_bs _ _ _ hb
  rw [show (⟨kz.toArray⟩ : ByteArray) = kZ from by decide +kernel] at h
  exact h
end Go.Proofs.YtfkkdhgggocgjaaDoor

