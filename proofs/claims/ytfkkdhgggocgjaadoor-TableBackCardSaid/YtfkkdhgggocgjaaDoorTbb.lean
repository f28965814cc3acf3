/-
  What lies in memory while TableBack runs: a table, the row of where its pages stand, the texts kept of its chunks, a map of numbers, and each call upon it, over this seat's translation; conditions: those that each law states.
-/
import Derived.Test.YtfkkdhgggocgjaaDoorTba
import Derived.Maps.OwnSet
import Derived.Maps.Views
import Derived.MapKept
namespace Go.Proofs.YtfkkdhgggocgjaaDoor
open Go.RowKit Go.Maps Go.ChangeMaps

def textsC (l : List ByteArray) : List Value := l.map Value.string
theorem textsC_at {l : List ByteArray} {j : Nat} (h : j < l.length) : (textsC l)[j]? = some (.string (l.getD j ⟨#[]⟩)) := by simp [textsC, h, List.getD]
theorem textsC_set (l : List ByteArray) (k : Nat) (s : ByteArray) : (textsC l).toArray.setIfInBounds k (.string s) = (textsC (l.set k s)).toArray := by
  rw [List.setIfInBounds_toArray]
  unfold textsC
  rw [List.map_set]
theorem intsC_put (l : List Nat) (k v : Nat) : (intsC l).toArray.setIfInBounds k (.int .i64 (v : Nat)) = (intsC (l.set k v)).toArray := by
  rw [List.setIfInBounds_toArray]
  unfold intsC
  rw [List.map_set]
theorem intsC_at1 {l : List Nat} {j : Nat} (h : j < l.length) : (intsC l)[j]? = some (.int .i64 (l.getD j 0 : Nat)) := by simp [intsC, h, List.getD]
/-- A table, where its pages stand, and the texts kept. -/
structure Ba (w : World) (p st cl : Nat) (s : TB) (Q : List Nat) (C : List ByteArray) (W : World) : Prop where
  t : PT W p s
  a : Blk W st 47 (intsC (0 :: Q)).toArray
  ql : Q.length = 960
  c : Blk W cl 48 (textsC C).toArray
  hl : C.length = 8
  np : w.heap.size ≤ p
  o1 : p < st
  o2 : st < cl
  g : w.grownBy W none
  h : Hd W
section
variable {w : World} {p st cl : Nat} {s : TB} {Q : List Nat} {C : List ByteArray} {W : World}
theorem Ba.keep {W' : World} {b : Nat} (h : Ba w p st cl s Q C W) (_ : 0 < w.heap.size) (g : W.grownBy W' (some b)) (hb : cl < b) : Ba w p st cl s Q C W' :=
  have h1 := h.o1; have h2 := h.o2; have h3 := h.np
  ⟨h.t.keep g (ne_some (by omega)), h.a.keep g (ne_some (by omega)), h.ql, h.c.keep g (ne_some (by omega)), h.hl, h.np, h.o1, h.o2, gb_step h.g g (by omega), h.h.keep g (ne_some (by omega))⟩
theorem Ba.keep0 {W' : World} (h : Ba w p st cl s Q C W) (g : W.grownBy W' none) : Ba w p st cl s Q C W' :=
  ⟨h.t.keep0 g, h.a.keep0 g, h.ql, h.c.keep0 g, h.hl, h.np, h.o1, h.o2, gb_trans h.g g, h.h.keep0 g⟩
theorem Ba.setT {W' : World} {s' : TB} (h : Ba w p st cl s Q C W) (_ : 0 < w.heap.size) (hp : PT W' p s') (g : W.grownBy W' (some p)) : Ba w p st cl s' Q C W' :=
  have h1 := h.o1; have h2 := h.o2; have h3 := h.np
  ⟨hp, h.a.keep g (ne_some (by omega)), h.ql, h.c.keep g (ne_some (by omega)), h.hl, h.np, h.o1, h.o2, gb_step h.g g h.np, h.h.keep g (ne_some (by omega))⟩
theorem Ba.setA (h : Ba w p st cl s Q C W) (_ : 0 < w.heap.size) (k v : Nat) : Ba w p st cl s (Q.set k v) C (W.setCell ⟨st, k + 1, none⟩ (.int .i64 (v : Nat))) :=
  have h1 := h.o1; have h2 := h.o2; have h3 := h.np
  have g := gb_set W st (k + 1) none (.int .i64 (v : Nat))
  ⟨h.t.keep g (ne_some (by omega)), by have := h.a.set (k + 1) (.int .i64 (v : Nat)); rw [intsC_put, List.set_cons_succ] at this; exact this, by rw [List.length_set]; exact h.ql, h.c.keep g (ne_some (by omega)), h.hl, h.np, h.o1, h.o2, gb_step h.g g (by omega), h.h.keep g (ne_some (by omega))⟩
theorem Ba.setC (h : Ba w p st cl s Q C W) (_ : 0 < w.heap.size) (k : Nat) (x : ByteArray) : Ba w p st cl s Q (C.set k x) (W.setCell ⟨cl, k, none⟩ (.string x)) :=
  have h1 := h.o1; have h2 := h.o2; have h3 := h.np
  have g := gb_set W cl k none (.string x)
  ⟨h.t.keep g (ne_some (by omega)), h.a.keep g (ne_some (by omega)), h.ql, by have := h.c.set k (.string x); rw [textsC_set] at this; exact this, by rw [List.length_set]; exact h.hl, h.np, h.o1, h.o2, gb_step h.g g (by omega), h.h.keep g (ne_some (by omega))⟩
theorem Ba.cellA (h : Ba w p st cl s Q C W) {k : Nat} (hk : k < 960) : W.cell? ⟨st, k + 1, none⟩ = some (.int .i64 (Q.getD k 0 : Nat)) :=
  h.a.cell (k + 1) (by rw [List.getElem?_toArray, intsC_at1 (by rw [List.length_cons, h.ql]; omega)]; rfl)
theorem stand_cell {W' : World} {Q' : List Nat} {k : Nat} (h : Blk W' st 47 (intsC (0 :: Q')).toArray) (hq : Q'.length = 960) (hk : k < 960) : W'.cell? ⟨st, k + 1, none⟩ = some (.int .i64 (Q'.getD k 0 : Nat)) :=
  h.cell (k + 1) (by rw [List.getElem?_toArray, intsC_at1 (by rw [List.length_cons, hq]; omega)]; rfl)
theorem Ba.freeA (h : Ba w p st cl s Q C W) (k : Nat) : W.frozen? ⟨st, k, none⟩ = false := h.a.free k
theorem Ba.cellC (h : Ba w p st cl s Q C W) {k : Nat} (hk : k < 8) : W.cell? ⟨cl, k, none⟩ = some (.string (C.getD k ⟨#[]⟩)) :=
  h.c.cell k (by rw [List.getElem?_toArray]; exact textsC_at (by rw [h.hl]; exact hk))
theorem Ba.freeC (h : Ba w p st cl s Q C W) (k : Nat) : W.frozen? ⟨cl, k, none⟩ = false := h.c.free k
theorem b_chunk (i : Nat) (h : Ba w p st cl s Q C W) : Calls Tryd.prog 24 #[.pointer (some ⟨p, 0, none⟩), .int .i64 (i : Nat)] W fun e W' => e = .returned (.string (textB s.P i)) ∧ Ba w p st cl s Q C W' ∧ W.grownBy W' none :=
  (chunkT_any p s (i : Nat) W h.t).mono fun _ _ x => ⟨x.1, h.keep0 x.2, x.2⟩
theorem b_set (k v : Nat) (hk : k < 960) (h1 : 2 ≤ v) (h2 : v ≤ 1023) (h0 : 0 < w.heap.size) (h : Ba w p st cl s Q C W) :
    Calls Tryd.prog 8 #[.pointer (some ⟨p, 0, none⟩), .int .i64 ((k : Int) + 1), .int .i64 (v : Nat)] W fun e W' => e = .returned (.int .i64 0) ∧ Ba w p st cl (putF s k v) Q C W' :=
  (set_k p s (putF s k v) _ _ 0 (setE_ok hk h1 h2) (setF_put s k v hk h1 h2) W h.t).mono fun _ _ x => ⟨x.1, h.setT h0 x.2.1 x.2.2⟩
theorem Ba.setAP {k v : Nat} (h : Ba w p st cl (putF s k v) s.P C W) (h0 : 0 < w.heap.size) : Ba w p st cl (putF s k v) (putF s k v).P C (W.setCell ⟨st, k + 1, none⟩ (.int .i64 (v : Nat))) := by
  rw [putF_P]; exact h.setA h0 k v
theorem Ba.setAP0 {k : Nat} (h : Ba w p st cl (putF s k 0) s.P C W) (h0 : 0 < w.heap.size) : Ba w p st cl (putF s k 0) (putF s k 0).P C (W.setCell ⟨st, k + 1, none⟩ (.int .i64 0)) := h.setAP h0
theorem Ba.setAP2 {k v : Nat} (h : Ba w p st cl (putF s k (v + 2)) s.P C W) (h0 : 0 < w.heap.size) : Ba w p st cl (putF s k (v + 2)) (putF s k (v + 2)).P C (W.setCell ⟨st, k + 1, none⟩ (.int .i64 ((v : Int) + 2))) := h.setAP h0
theorem hi_put {k v : Nat} (h : NoOne s.P ∧ CI s C) (hf : s.Fit) (hk : k < 960) (hv : v ≠ 1) : NoOne (putF s k v).P ∧ CI (putF s k v) C :=
  ⟨by rw [putF_P]; exact noOne_set h.1 k v hv, ci_put hf h.2 k v hk⟩
theorem b_setT (k v : Nat) (hk : k < 960) (hv : v < 1022) (h0 : 0 < w.heap.size) (h : Ba w p st cl s Q C W) :
    Calls Tryd.prog 8 #[.pointer (some ⟨p, 0, none⟩), .int .i64 ((k : Int) + 1), .int .i64 ((v : Int) + 2)] W fun e W' => e = .returned (.int .i64 0) ∧ Ba w p st cl (putF s k (v + 2)) Q C W' :=
  b_set k (v + 2) hk (by omega) (by omega) h0 h
theorem b_drop (k : Nat) (hk : k < 960) (e' : Int) (he : (if s.P.getD k 0 = 0 then (13 : Int) else 0) = e') (h0 : 0 < w.heap.size) (h : Ba w p st cl s Q C W) :
    Calls Tryd.prog 10 #[.pointer (some ⟨p, 0, none⟩), .int .i64 ((k : Int) + 1)] W fun e W' => e = .returned (.int .i64 e') ∧ Ba w p st cl (putF s k 0) Q C W' ∧ W.grownBy W' (some p) :=
  (drop_k p s (putF s k 0) _ e' (by unfold dropE; rw [getF_nat s k hk]; exact he) (dropF_put s k hk) W h.t).mono fun _ _ x => ⟨x.1, h.setT h0 x.2.1 x.2.2, x.2.2⟩
theorem b_clean (h0 : 0 < w.heap.size) (h : Ba w p st cl s Q C W) :
    Calls Tryd.prog 16 #[.pointer (some ⟨p, 0, none⟩)] W fun e W' => e = .returned (.tuple #[]) ∧ Ba w p st cl (cleanF s) Q C W' :=
  (clean_any p s W h.t).mono fun _ _ x => ⟨x.1, h.setT h0 x.2.1 x.2.2⟩
theorem b_get (k : Nat) (hk : k < 960) (h : Ba w p st cl s Q C W) : Calls Tryd.prog 20 #[.pointer (some ⟨p, 0, none⟩), .int .i64 ((k : Int) + 1)] W fun e W' => e = .returned (.int .i64 (s.P.getD k 0 : Nat)) ∧ W = W' := by
  have := get_any p s ((k : Int) + 1) W h.t
  rw [getF_nat s k hk] at this
  exact this
end
theorem zeros_stand : Tryd.zeroCells47 = (intsC (0 :: nots 960)).toArray := by kernel_rfl
def noTexts : Array Value := #[Value.string ⟨#[]⟩, Value.string ⟨#[]⟩, Value.string ⟨#[]⟩, Value.string ⟨#[]⟩, Value.string ⟨#[]⟩, Value.string ⟨#[]⟩, Value.string ⟨#[]⟩, Value.string ⟨#[]⟩]
theorem zeros_texts : noTexts = (textsC (List.replicate 8 ⟨#[]⟩)).toArray := by kernel_rfl
theorem ba_new {w W : World} {p : Nat} (h : PT W p newF) (np : w.heap.size ≤ p) (g : w.grownBy W none) (hh : Hd W) :
    Ba w p W.heap.size (W.heap.size + 1) newF newF.P (List.replicate 8 ⟨#[]⟩) ((W.alloc (.cells Tryd.zeroCells47 47)).alloc (.cells noTexts 48)) := by
  have g1 := gb_alloc W (.cells Tryd.zeroCells47 47) none
  have g2 := gb_alloc (W.alloc (.cells Tryd.zeroCells47 47)) (.cells noTexts 48) none
  refine ⟨h.keep0 (gb_trans g1 g2), ?_, nots_length _, ?_, List.length_replicate, np, h.lt, Nat.lt_succ_self _, gb_trans g (gb_trans g1 g2), hh.keep0 (gb_trans g1 g2)⟩
  · have := (Blk.mk W 47 Tryd.zeroCells47).keep0 g2
    rw [zeros_stand] at this ⊢
    exact this
  · have := Blk.mk (W.alloc (.cells Tryd.zeroCells47 47)) 48 noTexts
    rw [World.size_alloc] at this
    rw [zeros_texts] at this ⊢
    exact this
end Go.Proofs.YtfkkdhgggocgjaaDoor

