/-
  The map of a table's dirty chunks, the copy that is emptied and the table into which the texts are loaded, beside what lies in memory while TableBack runs, over this seat's translation; conditions: those that each law states.
-/
import Derived.Test.YtfkkdhgggocgjaaDoorTbc
namespace Go.Proofs.YtfkkdhgggocgjaaDoor
open Go.RowKit Go.Maps Go.ChangeMaps

theorem lawI : Keyed Tryd.prog 3 := int_keyed Tryd.underlying3
theorem zeroI (w : World) : (zeroValue 3).run Tryd.prog w = .ok (.int .i64 0) w := by kernel_rfl
theorem i64_wf' {z : Int} (h : -9223372036854775808 ≤ z ∧ z ≤ 9223372036854775807) : (Lit.int .i64 z).wf = true := by
  show (decide (-9223372036854775808 ≤ z) && decide (z ≤ 9223372036854775807)) = true
  simpa using h
def MapN (w : World) (m n : Nat) (D : DataW Unit) : Prop := w.ownsMap Tryd.prog 3 (plainElem Tryd.prog 3) m n D
theorem MapN.keep {W W' : World} {m n : Nat} {D : DataW Unit} {r : Option Nat} (h : MapN W m n D) (g : W.grownBy W' r) (hr : some m ≠ r) : MapN W' m n D := World.ownsMap.kept h g hr
theorem MapN.keep0 {W W' : World} {m n : Nat} {D : DataW Unit} (h : MapN W m n D) (g : W.grownBy W' none) : MapN W' m n D := h.keep g (by simp)
theorem MapN.mk (w : World) : MapN (w.alloc (.map #[] 0)) w.heap.size 0 (.map []) := World.ownsMap_made w Tryd.prog 3 (plainElem (H := Unit) Tryd.prog 3)
set_option maxRecDepth 100000 in
theorem look_int {w : World} {m n : Nat} {D : DataW Unit} (h : MapN w m n D) (k : Int) (hk : -9223372036854775808 ≤ k ∧ k ≤ 9223372036854775807) (c : Int) (hc : D.atKey (.int .i64 k) (.lit (.int .i64 0)) = .lit (.int .i64 c)) :
    (Instr.lookup 52 (.map (some m)) (.int .i64 k) false).run Tryd.prog w = .ok (.int .i64 c) w := by
  obtain ⟨c', hrun, hc', _⟩ := World.ownsMap.lookup_int h lawI Tryd.underlying52 Tryd.underlying3 (zeroI w) (keyOf_int_mk Tryd.underlying3 (i64_wf' hk))
  rw [hc] at hc'
  injection hc' with e
  injection e with _ e
  subst e
  exact hrun
set_option maxRecDepth 100000 in
theorem put_int {w : World} {m n : Nat} {D : DataW Unit} (h : MapN w m n D) (hn : n < 100) (k : Int) (hk : -9223372036854775808 ≤ k ∧ k ≤ 9223372036854775807) (c : Int) (hc : -9223372036854775808 ≤ c ∧ c ≤ 9223372036854775807) :
    ∃ w', (Instr.mapUpdate 52 (.map (some m)) (.int .i64 k) (.int .i64 c)).run Tryd.prog w = .ok () w' ∧ MapN w' m (n + 1) (D.put (.int .i64 k) (.lit (.int .i64 c))) ∧ w.grownBy w' (some m) :=
  World.ownsMap.update h lawI Tryd.underlying52 (by unfold maxLen; omega) (keyOf_int_mk Tryd.underlying3 (i64_wf' hk)) (plainElem_int (H := Unit) Tryd.underlying3 (i64_wf' hc))
/-- The map holds a 1 for each number of a list, and nothing else of the first eight. -/
def Seen (D : DataW Unit) (l : List Nat) : Prop := ∀ i : Nat, i < 8 → D.atKey (.int .i64 (i : Nat)) (.lit (.int .i64 0)) = .lit (.int .i64 (if i ∈ l then 1 else 0))
theorem seen_nil : Seen (.map []) [] := fun i _ => by rw [if_neg (by simp)]; rfl
theorem seen_put {D : DataW Unit} {l : List Nat} (h : Seen D l) (hD : IsMap D) (c : Nat) : Seen (D.put (.int .i64 (c : Nat)) (.lit (.int .i64 1))) (l ++ [c]) := by
  intro i hi
  by_cases e : i = c
  · subst e
    rw [if_pos (by simp)]
    exact atKey_put_same hD (show WideAt.IsKeyLit (.int .i64 (i : Nat)) from trivial) _ _
  · have hne : (Lit.int .i64 (i : Nat)) ≠ (Lit.int .i64 (c : Nat)) := by intro e'; injection e' with _ e2; exact e (by omega)
    rw [atKey_put_other hne, h i hi]
    congr 3
    simp [e]
theorem seen_dirty {D : DataW Unit} {B : List Bool} (h : Seen D (dirtyF B)) (i : Nat) (hi : i < 8) : D.atKey (.int .i64 (i : Nat)) (.lit (.int .i64 0)) = .lit (.int .i64 (if B.getD i false = true then 1 else 0)) := by
  rw [h i hi]
  congr 2
  by_cases hb : B.getD i false = true
  · rw [if_pos hb, if_pos ((mem_dirty hi).2 hb)]
  · rw [if_neg hb, if_neg (fun e => hb ((mem_dirty hi).1 e))]
theorem nts_cell {w : World} {ao : Option Addr} {N cap : Nat} {l : List Nat} {j : Nat} (h : Nts w (.slice ao N cap) l) (hj : j < l.length) : ∃ a, ao = some a ∧ w.cell? (a.add j) = some (.int .i64 (l.getD j 0 : Nat)) := by
  obtain ⟨ao', cap', h1, h2, h3, h4, h5⟩ := h
  injection h1 with e1 e2 e3
  subst e1
  cases ao with
  | none => have := (h4 rfl).1; omega
  | some a => exact ⟨a, rfl, h5 a rfl j _ (intsC_at1 hj)⟩
theorem dirty_lt {D : List Bool} {dl : List Nat} {j : Nat} (h : dirtyF D = dl) (hj : j < dl.length) : dl.getD j 0 < 8 := by
  subst h
  rw [List.getD_eq_getElem?_getD, List.getElem?_eq_getElem hj, Option.getD_some]
  have := List.getElem_mem hj
  exact List.mem_range.1 (List.mem_filter.1 this).1
theorem take_snoc' {dl : List Nat} {N j d : Nat} (hN : dl.length = N) (hj : j < N) (hd : dl.getD j 0 = d) : dl.take j ++ [d] = dl.take (j + 1) := by
  have hj' : j < dl.length := by omega
  rw [List.getD_eq_getElem?_getD, List.getElem?_eq_getElem hj', Option.getD_some] at hd
  rw [List.take_add_one, List.getElem?_eq_getElem hj', hd]; rfl
/-- The table and what is kept of it, the map, the copy and the new table. -/
structure Bb (w : World) (p st cl mb o u : Nat) (s so su : TB) (C : List ByteArray) (n : Nat) (D : DataW Unit) (W : World) : Prop where
  b : Ba w p st cl s s.P C W
  m : MapN W mb n D
  q : PT W o so
  r : PT W u su
  o3 : cl < mb
  o4 : mb < o
  o5 : o < u
section
variable {w : World} {p st cl mb o u : Nat} {s so su : TB} {C : List ByteArray} {n : Nat} {D : DataW Unit} {W : World}
theorem Bb.keep0 {W' : World} (h : Bb w p st cl mb o u s so su C n D W) (g : W.grownBy W' none) : Bb w p st cl mb o u s so su C n D W' :=
  ⟨h.b.keep0 g, h.m.keep0 g, h.q.keep0 g, h.r.keep0 g, h.o3, h.o4, h.o5⟩
theorem Bb.setO {W' : World} {s' : TB} (h : Bb w p st cl mb o u s so su C n D W) (h0 : 0 < w.heap.size) (hq : PT W' o s') (g : W.grownBy W' (some o)) : Bb w p st cl mb o u s s' su C n D W' :=
  have h3 := h.o3; have h4 := h.o4; have h5 := h.o5
  ⟨h.b.keep h0 g (by omega), h.m.keep g (ne_some (by omega)), hq, h.r.keep g (ne_some (by omega)), h.o3, h.o4, h.o5⟩
theorem Bb.setU {W' : World} {s' : TB} (h : Bb w p st cl mb o u s so su C n D W) (h0 : 0 < w.heap.size) (hr : PT W' u s') (g : W.grownBy W' (some u)) : Bb w p st cl mb o u s so s' C n D W' :=
  have h3 := h.o3; have h4 := h.o4; have h5 := h.o5
  ⟨h.b.keep h0 g (by omega), h.m.keep g (ne_some (by omega)), h.q.keep g (ne_some (by omega)), hr, h.o3, h.o4, h.o5⟩
theorem e_chunk (i : Nat) (h : Bb w p st cl mb o u s so su C n D W) : Calls Tryd.prog 24 #[.pointer (some ⟨p, 0, none⟩), .int .i64 (i : Nat)] W fun e W' => e = .returned (.string (textB s.P i)) ∧ Bb w p st cl mb o u s so su C n D W' :=
  (chunkT_any p s (i : Nat) W h.b.t).mono fun _ _ x => ⟨x.1, h.keep0 x.2⟩
theorem e_load (i : Nat) (hi : i < 8) (hn : NoOne s.P) (h0 : 0 < w.heap.size) (h : Bb w p st cl mb o u s so (uF s.P i) C n D W) :
    Calls Tryd.prog 14 #[.pointer (some ⟨u, 0, none⟩), .int .i64 (i : Nat), .string (textB s.P i)] W fun e W' => e = .returned .nilIface ∧ Bb w p st cl mb o u s so (uF s.P (i + 1)) C n D W' :=
  (load_any u (uF s.P i) (i : Nat) (textB s.P i) W h.r h.b.h (by rw [textB_size h.b.t.fit.1 hi]; omega)).mono fun _ _ x =>
    ⟨x.2.2.1 (loadC_text h.b.t.fit hn hi), h.setU h0 (uF_load h.b.t.fit hn hi ▸ x.1) x.2.1⟩
theorem e_drop (k : Nat) (hk : k < 960) (hP : so.P = oF s.P k) (h0 : 0 < w.heap.size) (h : Bb w p st cl mb o u s so su C n D W) :
    Calls Tryd.prog 10 #[.pointer (some ⟨o, 0, none⟩), .int .i64 ((k : Int) + 1)] W fun e W' => ∃ (c : Int) (s' : TB), e = .returned (.int .i64 c) ∧ s'.P = oF s.P (k + 1) ∧ Bb w p st cl mb o u s s' su C n D W' :=
  (drop_any o so ((k : Int) + 1) W h.q).mono fun _ _ x => ⟨_, dropF so ((k : Int) + 1), x.1, by rw [dropF_P _ _ hk, hP, oF_set h.b.t.fit.1 hk], h.setO h0 x.2.1 x.2.2⟩
theorem e_getP (k : Nat) (hk : k < 960) (h : Bb w p st cl mb o u s so su C n D W) : Calls Tryd.prog 20 #[.pointer (some ⟨p, 0, none⟩), .int .i64 ((k : Int) + 1)] W fun e W' => e = .returned (.int .i64 (s.P.getD k 0 : Nat)) ∧ W = W' := b_get k hk h.b
theorem e_getO (k : Nat) (hk : k < 960) (h : Bb w p st cl mb o u s so su C n D W) : Calls Tryd.prog 20 #[.pointer (some ⟨o, 0, none⟩), .int .i64 ((k : Int) + 1)] W fun e W' => e = .returned (.int .i64 (so.P.getD k 0 : Nat)) ∧ W = W' := by
  have := get_any o so ((k : Int) + 1) W h.q
  rw [getF_nat so k hk] at this
  exact this
theorem e_getU (k : Nat) (hk : k < 960) (h : Bb w p st cl mb o u s so su C n D W) : Calls Tryd.prog 20 #[.pointer (some ⟨u, 0, none⟩), .int .i64 ((k : Int) + 1)] W fun e W' => e = .returned (.int .i64 (su.P.getD k 0 : Nat)) ∧ W = W' := by
  have := get_any u su ((k : Int) + 1) W h.r
  rw [getF_nat su k hk] at this
  exact this
theorem e_start {Wm W1 W2 : World} (hb : Ba w p st cl s s.P C Wm) (hm : MapN Wm mb n D) (h3 : cl < mb) (hq : PT W1 Wm.heap.size s) (g1 : Wm.grownBy W1 none) (hr : PT W2 W1.heap.size newF) (g2 : W1.grownBy W2 none) :
    Bb w p st cl mb Wm.heap.size W1.heap.size s s (uF s.P 0) C n D W2 :=
  ⟨hb.keep0 (gb_trans g1 g2), hm.keep0 (gb_trans g1 g2), hq.keep0 g2, by rw [uF_zero]; exact hr, h3, hm.lt, hq.lt⟩
theorem e_getS (k : Nat) (hk : k < 960) (h : Bb w p st cl mb o u s so ⟨s.P, offs 8⟩ C n D W) : Calls Tryd.prog 20 #[.pointer (some ⟨u, 0, none⟩), .int .i64 ((k : Int) + 1)] W fun e W' => e = .returned (.int .i64 (s.P.getD k 0 : Nat)) ∧ W = W' := e_getU (su := ⟨s.P, offs 8⟩) k hk h
theorem e_get0 (k : Nat) (hk : k < 960) (hP : so.P = oF s.P (k + 1)) (h : Bb w p st cl mb o u s so su C n D W) : Calls Tryd.prog 20 #[.pointer (some ⟨o, 0, none⟩), .int .i64 ((k : Int) + 1)] W fun e W' => e = .returned (.int .i64 0) ∧ W = W' := by
  have h1 := e_getO k hk h
  rw [hP, oF_at] at h1
  exact h1
theorem e_dirtyU (h : Bb w p st cl mb o u s so ⟨s.P, offs 8⟩ C n D W) : Calls Tryd.prog 25 #[.pointer (some ⟨u, 0, none⟩)] W fun e W' => ∃ ao cap, e = .returned (.slice ao 0 cap) ∧ Bb w p st cl mb o u s so ⟨s.P, offs 8⟩ C n D W' :=
  (dirty_k u ⟨s.P, offs 8⟩ [] dirty_offs W h.r).mono fun _ _ x => by
    obtain ⟨v, rfl, o1, g⟩ := x
    obtain ⟨ao, cap, rfl⟩ := nts_shape (Sl_owns (l := []) o1)
    exact ⟨ao, cap, rfl, h.keep0 g⟩
theorem e_secO (hs : secsF so.P = []) (h : Bb w p st cl mb o u s so su C n D W) : Calls Tryd.prog 26 #[.pointer (some ⟨o, 0, none⟩)] W fun e W' => ∃ ao cap, e = .returned (.slice ao 0 cap) ∧ Bb w p st cl mb o u s so su C n D W' :=
  (sectors_k o so [] hs W h.q).mono fun _ _ x => by
    obtain ⟨v, rfl, o1, g⟩ := x
    obtain ⟨ao, cap, rfl⟩ := nts_shape (Sl_owns (l := []) o1)
    exact ⟨ao, cap, rfl, h.keep0 g⟩
theorem e_secP {M : Nat} (hM : (secsF s.P).length = M) (h : Bb w p st cl mb o u s so su C n D W) : Calls Tryd.prog 26 #[.pointer (some ⟨p, 0, none⟩)] W fun e W' => ∃ ao cap, e = .returned (.slice ao M cap) ∧ Bb w p st cl mb o u s so su C n D W' :=
  (sectors_any p s W h.b.t).mono fun _ _ x => by
    subst hM
    obtain ⟨v, rfl, o1, g⟩ := x
    obtain ⟨ao, cap, rfl⟩ := nts_shape (Sl_owns o1)
    exact ⟨ao, cap, rfl, h.keep0 g⟩
theorem e_secU {M : Nat} (hM : (secsF s.P).length = M) (h : Bb w p st cl mb o u s so ⟨s.P, offs 8⟩ C n D W) : Calls Tryd.prog 26 #[.pointer (some ⟨u, 0, none⟩)] W fun e W' => ∃ ao cap, e = .returned (.slice ao M cap) ∧ Bb w p st cl mb o u s so ⟨s.P, offs 8⟩ C n D W' :=
  (sectors_any u ⟨s.P, offs 8⟩ W h.r).mono fun _ _ x => by
    subst hM
    obtain ⟨v, rfl, o1, g⟩ := x
    obtain ⟨ao, cap, rfl⟩ := nts_shape (Sl_owns o1)
    exact ⟨ao, cap, rfl, h.keep0 g⟩
theorem text_cell {W' : World} {i : Nat} {x : ByteArray} (h : Blk W' cl 48 (textsC C).toArray) (hl : C.length = 8) (hi : i < 8) (he : C.getD i ⟨#[]⟩ = x) : W'.cell? ⟨cl, i, none⟩ = some (.string x) := by
  rw [← he]
  exact h.cell i (by rw [List.getElem?_toArray]; exact textsC_at (by rw [hl]; exact hi))
end
end Go.Proofs.YtfkkdhgggocgjaaDoor

