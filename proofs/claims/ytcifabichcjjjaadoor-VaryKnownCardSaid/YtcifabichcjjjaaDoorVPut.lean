/-
  What vary.layField and vary.Put lay, over this seat's translation; conditions: the slice reads as fields whose numbers fit.
-/
import Derived.Test.YtcifabichcjjjaaDoorVLay
import Derived.StillTailTactics
import Derived.Deep.RegionHeld3
namespace Go.Proofs.YtcifabichcjjjaaDoor
open Go.RowKit

theorem wp_app_gen {o : Oper} {a : Act} {K : Act → World → Prop} {Q : Exit → Act → World → Prop} (B : Nat) (W : World) (z : Int) (s x : Operand) (v : Value) (n : Nat) (xs : List Value) (ad : Addr)
    (ho : o.op = .call { callee := .builtin .append, args := #[s, x], argTypes := #[59, 59] })
    (hs : a.eval s = v) (hx : a.eval x = .slice (some ad) 1 1) (hc : W.cell? ad = some (.int .u8 z))
    (hown : W.ownsRow B 5 1 v n xs) (hB : B ≤ W.heap.size) (hl : n ≤ 1000100)
    (h : ∀ v' w', w'.ownsRow B 5 1 v' (n + 1) (xs ++ [.int .u8 z]) → Grew W v w' v' → B ≤ w'.heap.size → K (a.put o.dst v') w') : o.wp Tryd.prog a W K Q := by
  obtain ⟨i0, hi, hz0, hz1, hz2⟩ := info_parts Tryd.info8
  have hnew : ∀ j u, [Value.int .u8 z][j]? = some u → W.cell? (ad.add j) = some u := by
    intro j u hj
    obtain rfl : j = 0 := by
      have := (List.getElem?_eq_some_iff.1 hj).1
      simpa using this
    have hx : Value.int .u8 z = u := by simpa using hj
    subst hx
    rw [Addr.add_zero']; exact hc
  obtain ⟨v', w', hrun, h2, h3, _, h5⟩ := run_append_own_at (P := Tryd.prog) W B 59 o.type 5 i0 (.int .u8 0) 1 1 Tryd.underlying59 hi hz0 hz1 hz2 rfl (by decide) v n xs hown ad 1 1 [.int .u8 z] rfl hnew (fun u hu => by simp at hu; subst hu; rfl) (by unfold maxLen; omega) (by omega) hB
  unfold Oper.wp execOp
  simp only [ho, resolve, invoke, builtin, Sem.run_bind, Sem.run_pure, Result.andThen_ok, List.map_toArray, List.map_cons, List.map_nil, hs, hx, hrun]
  refine h v' w' h2 ⟨h3, ?_⟩ (Nat.le_trans hB h3.size)
  rcases h5 with h5 | h5
  · exact Or.inl h5
  · exact Or.inr ⟨_, h5, Nat.le_refl _⟩

theorem step_app_gen {ops : Array Oper} {o : Oper} {a : Act} {K : Act → World → Prop} {Q : Exit → Act → World → Prop} {E : Prop} (B : Nat) (W : World) (z : Int) (s x : Operand) (v : Value) (n : Nat) (xs : List Value) (ad : Addr) (hgd : o.guard = none)
    (ho : o.op = .call { callee := .builtin .append, args := #[s, x], argTypes := #[59, 59] })
    (hs : a.eval s = v) (hx : a.eval x = .slice (some ad) 1 1) (hc : W.cell? ad = some (.int .u8 z))
    (hown : W.ownsRow B 5 1 v n xs) (hB : B ≤ W.heap.size) (hl : n ≤ 1000100)
    (h : ∀ v' w', w'.ownsRow B 5 1 v' (n + 1) (xs ++ [.int .u8 z]) → Grew W v w' v' → B ≤ w'.heap.size → K (a.put o.dst v') w') :
    if Region.wanted o (yielded ops a.tmps) = true then Oper.wp Tryd.prog o a W K Q else E := by
  have hw : Region.wanted o (yielded ops a.tmps) = true := by simp [Region.wanted, hgd]
  rw [if_pos hw]
  exact wp_app_gen B W z s x v n xs ad ho hs hx hc hown hB hl h
theorem own_ne {w : World} {g B : Nat} {t e : TypeId} {cs : Array Value} {size n : Nat} {v : Value} {xs : List Value} (h : w.ownsRow B e size v n xs) (hg : Blk w g t cs) (hne : e ≠ t) : some g ≠ v.ownBlock := by
  rcases h.2 with ⟨rfl, _⟩ | ⟨g', cap, cur, rfl, _, hh, _⟩
  · simp [Value.ownBlock]
  · intro he
    have : g' = g := by simpa [Value.ownBlock] using he.symm
    subst this
    unfold Blk at hg
    rw [hh] at hg
    injection hg with hg
    injection hg with _ ht
    exact hne ht
theorem snoc_own {w : World} {B : Nat} {v : Value} {l : List UInt8} {z : Int} (c : UInt8) (hz : z = c.toNat) (h : w.ownsRow B 5 1 v (l.length + 1) (bcells l ++ [.int .u8 z])) : w.ownsRow B 5 1 v (l ++ [c]).length (bcells (l ++ [c])) :=
  owns_cast h (by simp) (by subst hz; simp [bcells])

/-- A row of the caller's own that has become these bytes; what was there ahead of it is as it was. -/
def OntoF (w : World) (B : Nat) (l : List UInt8) (e : Ending) (w' : World) : Prop :=
  ∃ v', e = .returned v' ∧ w'.ownsRow B 5 1 v' l.length (bcells l) ∧ ∀ W : World, W.grownBy w none → W.heap.size ≤ B → W.grownBy w' none

set_option maxHeartbeats 1000000 in
theorem layField_num (B : Nat) (v : Value) (l : List UInt8) (tag : Int) (n : Nat) (s : ByteArray) (w : World) (hown : w.ownsRow B 5 1 v l.length (bcells l)) (hB : B ≤ w.heap.size) (hn : n < 18446744073709551616) (hl : l.length ≤ 900000) (ht1 : 1 ≤ tag) (ht2 : tag ≤ 63) :
    Calls Tryd.prog 24 #[v, .agg #[.int .i64 tag, .bool false, .int .u64 n, .string s]] w (OntoF w B (l ++ fieldB ⟨tag, false, n, s⟩)) := by
  obtain ⟨c, hc⟩ : ∃ c : UInt8, c = UInt8.ofNat (2 * tag).toNat := ⟨_, rfl⟩
  have hz : (2 * tag) = (c.toNat : Int) := by rw [hc]; simp; omega
  have HF := Lib.hid (show fieldB ⟨tag, false, n, s⟩ = c :: numB n by rw [hc]; rfl)
  have HZ := Lib.hid hz
  clear hz hc
  obtain ⟨w0, hw0⟩ : ∃ w0 : World, w0 = w.alloc (.cells #[.int .i64 tag, .bool false, .int .u64 n, .string s] 29) := ⟨_, rfl⟩
  have k0 : Blk w0 w.heap.size 29 #[.int .i64 tag, .bool false, .int .u64 n, .string s] := by rw [hw0]; exact Blk.mk _ _ _
  have g0 : w.grownBy w0 none := by rw [hw0]; exact gb_alloc _ _ _
  have own0 : w0.ownsRow B 5 1 v l.length (bcells l) := by rw [hw0]; exact hown.alloc _
  have HW := Lib.hid hw0
  clear hw0
  have hB0 : B ≤ w0.heap.size := Nat.le_trans hB g0.size
  go_enter Tryd.func24, Tryd.ntmps24
  go_wp2
  rw [← HW.out]
  have cn := Blk.cell k0 2 rfl
  go_region_held3 (fun w' => w'.cell? ⟨w.heap.size, 2, none⟩ = some (.int .u64 n)) (first | go_keep | exact d1 | exact d2)
    (first | (refine step_app_gen B _ (2 * tag) _ _ v l.length (bcells l) ⟨w0.heap.size, 0, none⟩ (by rfl) (by rfl) (by rfl) (by rfl) (by simp) ((own0.alloc _).kept (gb_drew _ none) (by cases hv : v.ownBlock <;> simp)) (by simp; omega) (by omega) ?_; intro v1 w1 o1 g1 s1; have k1 := ((k0.keep0 (gb_alloc _ _ _)).keep0 (gb_drew _ _)).keep g1.1 (own_ne own0 k0 (by decide)); have d1 := Blk.cell k1 2 rfl) | (go_at_call 39; refine (layNumber_any B v1 (l ++ [c]) n _ (snoc_own c HZ.out o1) s1 hn (by simp; omega)).mono ?_; rintro e w2 ⟨v2, rfl, o2, g2⟩; have d2 := Blk.cell (k1.keep g2.1 (own_ne o1 k1 (by decide))) 2 rfl))
  go_wp2
  go_ret
  refine ⟨v2, rfl, ?_, fun W hW hWB => gb_own2 hW hown hWB ((Grew.pre (gb_trans g0 (gb_trans (gb_alloc _ _ _) (gb_drew _ _))) g1).trans g2).1⟩
  have e1 : l ++ c :: numB n = l ++ [c] ++ numB n := by simp
  rw [HF.out, e1]
  exact o2

set_option maxHeartbeats 1000000 in
theorem layField_text (B : Nat) (v : Value) (l : List UInt8) (tag : Int) (n : Nat) (s : ByteArray) (w : World) (hown : w.ownsRow B 5 1 v l.length (bcells l)) (hB : B ≤ w.heap.size) (hs : s.size ≤ 2000) (hl : l.length ≤ 900000) (ht1 : 1 ≤ tag) (ht2 : tag ≤ 63) :
    Calls Tryd.prog 24 #[v, .agg #[.int .i64 tag, .bool true, .int .u64 n, .string s]] w (OntoF w B (l ++ fieldB ⟨tag, true, n, s⟩)) := by
  obtain ⟨c, hc⟩ : ∃ c : UInt8, c = UInt8.ofNat (2 * tag + 1).toNat := ⟨_, rfl⟩
  have hz : (2 * tag + 1) = (c.toNat : Int) := by rw [hc]; simp; omega
  have HF := Lib.hid (show fieldB ⟨tag, true, n, s⟩ = c :: (numB s.size ++ s.data.toList) by rw [hc]; rfl)
  have HZ := Lib.hid hz
  clear hz hc
  obtain ⟨w0, hw0⟩ : ∃ w0 : World, w0 = w.alloc (.cells #[.int .i64 tag, .bool true, .int .u64 n, .string s] 29) := ⟨_, rfl⟩
  have k0 : Blk w0 w.heap.size 29 #[.int .i64 tag, .bool true, .int .u64 n, .string s] := by rw [hw0]; exact Blk.mk _ _ _
  have g0 : w.grownBy w0 none := by rw [hw0]; exact gb_alloc _ _ _
  have own0 : w0.ownsRow B 5 1 v l.length (bcells l) := by rw [hw0]; exact hown.alloc _
  have HW := Lib.hid hw0
  clear hw0
  have hB0 : B ≤ w0.heap.size := Nat.le_trans hB g0.size
  have hnl := numB_length s.size
  obtain ⟨i0, hi, hz0, hz1, hz2⟩ := info_parts Tryd.info8
  go_enter Tryd.func24, Tryd.ntmps24
  go_wp2
  rw [← HW.out]
  have cn := Blk.cell k0 3 rfl
  have hw8 : IntKind.u8.wrap (2 * tag + 1) = 2 * tag + 1 := by simp only [IntKind.wrap, IntKind.bits, IntKind.signed]; simp; omega
  have hw64 : IntKind.u64.wrap (s.size : Int) = (s.size : Int) := by simp only [IntKind.wrap, IntKind.bits, IntKind.signed]; simp; omega
  go_region_held3 (fun w' => w'.cell? ⟨w.heap.size, 3, none⟩ = some (.string s)) (first | go_keep | exact d1 | exact d2)
    (first | (refine step_app_gen B _ (2 * tag + 1) _ _ v l.length (bcells l) ⟨w0.heap.size, 0, none⟩ (by rfl) (by rfl) (by rfl) (by rfl) (by simp) ((own0.alloc _).kept (gb_drew _ none) (by cases hv : v.ownBlock <;> simp)) (by simp; omega) (by omega) ?_; intro v1 w1 o1 g1 s1; have k1 := ((k0.keep0 (gb_alloc _ _ _)).keep0 (gb_drew _ _)).keep g1.1 (own_ne own0 k0 (by decide)); have d1 := Blk.cell k1 3 rfl) | (go_at_call 39; refine (layNumber_any B v1 (l ++ [c]) s.size _ (snoc_own c HZ.out o1) s1 (by omega) (by simp; omega)).mono ?_; rintro e w2 ⟨v2, rfl, o2, g2⟩; have d2 := Blk.cell (k1.keep g2.1 (own_ne o1 k1 (by decide))) 3 rfl))
  clear hw8 hw64
  have hlen : (l ++ [c] ++ numB s.size).length ≤ 900010 := by simp; omega
  have s2 : B ≤ w2.heap.size := Nat.le_trans s1 g2.1.size
  go_wp2_with (at_builtin; go_must (refine Lib.wpList_append_own_string _ rfl _ _ 59 9 rfl B 5 i0 Tryd.underlying59 Tryd.underlying9 hi hz0 hz1 hz2 _ _ _ rfl o2 s rfl (by unfold maxLen; omega) (by omega) s2 ?_; intro v3 w3 o3 g3 _))
  go_ret
  refine ⟨v3, rfl, ?_, fun W hW hWB => gb_own2 (gb_own2 hW hown hWB ((Grew.pre (gb_trans g0 (gb_trans (gb_alloc _ _ _) (gb_drew _ _))) g1).trans g2).1) o2 hWB g3⟩
  rw [HF.out]
  refine owns_cast o3 (by simp; omega) (by simp [bcells, Lib.strCells])
end Go.Proofs.YtcifabichcjjjaaDoor
