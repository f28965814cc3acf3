/-
  Whole arrays loaded out of a table, one of their elements, and what Dirty answers, over this seat's translation; conditions: the table's block is there, or there is no table.
-/
import Derived.Test.YtfkkdhgggocgjaaDoorTy
namespace Go.Proofs.YtfkkdhgggocgjaaDoor
open Go.RowKit

/-- A load of whatever a run of it answers. -/
theorem wp_load_at {P : Program} {o : Oper} {a : Act} {w : World} {K : Act → World → Prop} {Q : Exit → Act → World → Prop} (ty : TypeId) (x : Operand) (ho : o.op = .load ty x)
    (ad : Addr) (hx : a.eval x = .pointer (some ad)) (v : Value) (hr : (loadVar ty ad).run P w = .ok v w) (h : K (a.put o.dst v) w) : o.wp P a w K Q := by
  unfold Oper.wp execOp
  simp only [ho, hx, Instr.loadAt, Instr.sureAddr, Sem.run_bind, Sem.run_pure, Result.andThen_ok, hr]
  exact h
theorem wpList_load_at {P : Program} {ops : Array Oper} {rest : List Oper} {o : Oper} {a : Act} {w : World} {Q : Exit → Act → World → Prop} (hgd : o.guard = none) (ty : TypeId) (x : Operand) (ho : o.op = .load ty x)
    (ad : Addr) (hx : a.eval x = .pointer (some ad)) (v : Value) (hr : (loadVar ty ad).run P w = .ok v w) (h : wpList P ops Q rest (a.put o.dst v) w) : wpList P ops Q (o :: rest) a w :=
  wpList_plain hgd fun _ hK => wp_load_at ty x ho ad hx v hr (hK _ _ h)
theorem load_row {w : World} {p : Nat} {t : TypeId} {vs : Array Value} (h : Blk w p t vs) (o : Nat) (L : List Value) (hL : ∀ j v, L[j]? = some v → vs[o + j]? = some v) : (loadCells ⟨p, o, none⟩ L.length).run Tryd.prog w = .ok L.toArray w :=
  run_loadCells_list (P := Tryd.prog) w ⟨p, o, none⟩ L (fun j v hv => by rw [add_at]; exact h.cell (o + j) (hL j v hv))
theorem load_dirt {w : World} {p : Nat} {s : TB} (h : PT w p s) : (loadVar 60 ⟨p, 960, none⟩).run Tryd.prog w = .ok (.agg (bools s.D).toArray) w := by
  have hl := load_row h.1 960 (bools s.D) (fun j v hv => by
    have hj : j < 8 := by have := (List.getElem?_eq_some_iff.1 hv).1; rw [bools_length, h.2.2.1] at this; exact this
    rw [List.getElem?_toArray, tabC_dirt h.2 hj, ← hv, bools_at (by rw [h.2.2.1]; exact hj)])
  rw [bools_length, h.2.2.1] at hl
  simp [loadVar, Sem.run_bind, Tryd.isAgg60, Tryd.sizeOf60, hl]
theorem load_pages {w : World} {p : Nat} {s : TB} (h : PT w p s) : (loadVar 59 ⟨p, 0, none⟩).run Tryd.prog w = .ok (.agg (u16C s.P).toArray) w := by
  have hl := load_row h.1 0 (u16C s.P) (fun j v hv => by
    have hj : j < 960 := by have := (List.getElem?_eq_some_iff.1 hv).1; rw [u16C_length, h.2.1] at this; exact this
    rw [Nat.zero_add, List.getElem?_toArray, tabC_page h.2 hj, ← hv, u16C_at (by rw [h.2.1]; exact hj)])
  rw [u16C_length, h.2.1] at hl
  simp [loadVar, Sem.run_bind, Tryd.isAgg59, Tryd.sizeOf59, hl]
theorem index_dirt (D : List Bool) (hD : D.length = 8) (k : Nat) (hk : k < 8) (w : World) : (Instr.index 60 (.agg (bools D).toArray) (.int .i64 (k : Nat))).run Tryd.prog w = .ok (.bool (D.getD k false)) w := by
  have h := bools_at (l := D) (k := k) (by omega)
  simp [Instr.index, asIntOf, Sem.run_bind, run_underlying Tryd.underlying60, Tryd.sizeOf4, part, Tryd.isAgg4, h, hk]
theorem index_pages (P : List Nat) (hP : P.length = 960) (k : Nat) (hk : k < 960) (w : World) : (Instr.index 59 (.agg (u16C P).toArray) (.int .i64 (k : Nat))).run Tryd.prog w = .ok (.int .u16 (P.getD k 0 : Nat)) w := by
  have h := u16C_at (l := P) (k := k) (by omega)
  simp [Instr.index, asIntOf, Sem.run_bind, run_underlying Tryd.underlying59, Tryd.sizeOf49, part, Tryd.isAgg49, h, hk]

def dirtyTo (D : List Bool) (k : Nat) : List Nat := (List.range k).filter fun i => D.getD i false
theorem dirtyTo_yes {D : List Bool} {k : Nat} (h : D.getD k false = true) : dirtyTo D (k + 1) = dirtyTo D k ++ [k] := by
  rw [List.getD_eq_getElem?_getD] at h; unfold dirtyTo; rw [List.range_succ, List.filter_append]; simp [h]
theorem dirtyTo_no {D : List Bool} {k : Nat} (h : D.getD k false = false) : dirtyTo D (k + 1) = dirtyTo D k := by
  rw [List.getD_eq_getElem?_getD] at h; unfold dirtyTo; rw [List.range_succ, List.filter_append]; simp [h]
theorem dirtyTo_length (D : List Bool) (k : Nat) : (dirtyTo D k).length ≤ k := by
  unfold dirtyTo; exact Nat.le_trans (List.length_filter_le _ _) (by simp)
theorem intsC_snoc (l : List Nat) (n : Nat) : intsC (l ++ [n]) = intsC l ++ [.int .i64 (n : Nat)] := by simp [intsC]
theorem cell1_new (w : World) (x : Value) (t : TypeId) : ∀ j u, [x][j]? = some u → (w.alloc (.cells #[x] t)).cell? ((⟨w.heap.size, 0, none⟩ : Addr).add j) = some u := by
  intro j u hj
  rw [add_at, Nat.zero_add]
  exact (Blk.mk w t #[x]).cell j (by rw [List.getElem?_toArray]; exact hj)
theorem one_int (k : IntKind) (z : Int) : ∀ u ∈ [Value.int k z], u.oneCell' = true := by
  intro u hu; simp at hu; rw [hu]; rfl
theorem Tryd.infoInt : (Tryd.prog.info? 3).map (fun i => (i.zero, i.size, i.bytes)) = some (some (.int .i64 0), 1, 8) := by kernel_rfl
theorem owns_mono {w : World} {base base' : Nat} {e : TypeId} {size : Nat} {v : Value} {n : Nat} {xs : List Value} (h : w.ownsRow base e size v n xs) (hb : base' ≤ base) : w.ownsRow base' e size v n xs := by
  refine ⟨h.1, ?_⟩
  rcases h.2 with h1 | ⟨g, cap, cur, e1, e2, e3⟩
  · exact Or.inl h1
  · exact Or.inr ⟨g, cap, cur, e1, by omega, e3⟩
/-- A list of numbers in a slice that is new; nothing that was there has turned. -/
def NtsGot (w : World) (l : List Nat) (e : Ending) (w' : World) : Prop := ∃ v, e = .returned v ∧ w'.ownsRow w.heap.size 3 1 v l.length (intsC l) ∧ w.grownBy w' none
theorem dirty_nil (w : World) : Calls Tryd.prog 25 #[.pointer none] w fun e w' => e = .returned (.slice none 0 0) ∧ w = w' := by
  go_enter Tryd.func25, Tryd.ntmps25
  go_wp2
  go_ret
  exact ⟨rfl, rfl⟩
/-- A row of numbers of the call's own. -/
def RowIn (w : World) (l : List Nat) (v : Value) (W : World) : Prop := W.ownsRow w.heap.size 3 1 v l.length (intsC l) ∧ w.grownBy W none
theorem RowIn.nil (w : World) : RowIn w [] (.slice none 0 0) w := ⟨World.ownsRow_nil _ _ _ _, gb_refl _ _⟩
theorem RowIn.shape {w : World} {l : List Nat} {v : Value} {W : World} (h : RowIn w l v W) : ∃ ao cap, v = .slice ao l.length cap := by
  obtain ⟨ao, cap, h1, _⟩ := Sl.of_owns h.1; exact ⟨ao, cap, h1⟩
theorem RowIn.got {w : World} {l : List Nat} {v : Value} {W : World} (h : RowIn w l v W) : Nts W v l := Sl.of_owns h.1
theorem RowIn.snoc {w : World} {l : List Nat} {v v3 : Value} {W w3 : World} {n : Nat} {t : TypeId} (h : RowIn w l v W) (o3 : w3.ownsRow w.heap.size 3 1 v3 (l.length + 1) (intsC l ++ [.int .i64 (n : Nat)])) (g3 : (W.alloc (.cells #[.int .i64 (n : Nat)] t)).grownBy w3 v.ownBlock) : RowIn w (l ++ [n]) v3 w3 :=
  ⟨owns_cast o3 (by simp) (intsC_snoc l n).symm, gb_app h.2 h.1 (Nat.le_refl _) g3⟩
theorem RowIn.keep {w : World} {l : List Nat} {v : Value} {W W' : World} (h : RowIn w l v W) (g : W.grownBy W' none) : RowIn w l v W' := ⟨h.1.kept g (by cases v.ownBlock <;> simp), gb_trans h.2 g⟩
set_option maxRecDepth 100000 in
set_option maxHeartbeats 1000000 in
theorem dirty_any (p : Nat) (s : TB) (w : World) (h : PT w p s) : Calls Tryd.prog 25 #[.pointer (some ⟨p, 0, none⟩)] w (NtsGot w (dirtyF s.D)) := by
  obtain ⟨i0, hi, hz0, hz1, hz2⟩ := info_parts Tryd.infoInt
  have hl := load_dirt h
  have hx := index_dirt s.D h.2.2.1
  obtain ⟨C, hC⟩ : ∃ C, (bools s.D).toArray = C := ⟨_, rfl⟩
  rw [hC] at hl hx
  have HX := Lib.hid hx
  clear h hC hx
  go_enter Tryd.func25, Tryd.ntmps25
  go_wp2_with (refine wpList_load_at rfl 60 (.tmp 10) rfl ⟨p, 960, none⟩ rfl _ hl ?_)
  clear hl
  go_loopw [3, 12] (fun v i wr => ∃ k : Nat, k ≤ 8 ∧ i = .int .i64 k ∧ RowIn w (dirtyTo s.D k) v wr) (fun _ i _ => 8 - (intOf i).toNat)
  case atStart => exact ⟨0, by omega, rfl, RowIn.nil w⟩
  case round =>
    obtain ⟨k, hk, rfl, hR⟩ := hrel
    obtain ⟨ao, cap, rfl⟩ := hR.shape
    have hlen := dirtyTo_length s.D k
    by_cases hlt : k < 8
    · have hix := HX.out k hlt
      obtain ⟨b, hb⟩ : ∃ b, s.D.getD k false = b := ⟨_, rfl⟩
      rw [hb] at hix
      cases b
      · have hR2 : RowIn w (dirtyTo s.D (k + 1)) (.slice ao (dirtyTo s.D k).length cap) wr := by rw [dirtyTo_no hb]; exact hR
        have HR := Lib.hid hR2
        clear hR hR2 hb
        generalize dirtyTo s.D k = L at *
        go_wp2
        go_roundw
        case rel => exact ⟨k + 1, by omega, by go_num, HR.out⟩
        case measure => simp [intOf]; omega
      · have HS := Lib.hid (dirtyTo_yes hb)
        generalize dirtyTo s.D k = L at *
        have own := hR.1
        have hg := hR.2.size
        have HR := Lib.hid hR
        clear hR hb
        go_wp2_with (at_builtin; go_must (refine wpList_append_own _ rfl _ _ 53 rfl w.heap.size 3 i0 (.int .i64 0) 1 8 Tryd.underlying53 hi hz0 hz1 hz2 rfl (by decide) _ _ _ rfl (own.alloc _) ⟨wr.heap.size, 0, none⟩ 1 1 [.int .i64 (k : Nat)] rfl rfl (cell1_new _ _ _) (one_int _ _) (by unfold maxLen; omega) (by omega) (by simp; omega) ?_; intro v3 w3 own3 g3 _))
        have HQ := Lib.hid (HR.out.snoc own3 g3)
        clear own3 g3 own HR
        go_roundw
        case rel => exact ⟨k + 1, by omega, by go_num, by rw [HS.out]; exact HQ.out⟩
        case measure => simp [intOf]; omega
    · obtain rfl : k = 8 := by omega
      have HR := Lib.hid hR
      clear hR
      go_wp2
      go_ret
      exact ⟨_, rfl, HR.out.1, HR.out.2⟩
end Go.Proofs.YtfkkdhgggocgjaaDoor

