/-
  Texts of one layer, one behind the other, each with its own sentence; conditions: those that each law states.
-/
import Derived.OrdersHeld
import Derived.Deep.RegionHeld3
import Derived.Test.YtliiooldlooagaaGreatDoorZT3
set_option linter.unusedSimpArgs false
set_option linter.unusedVariables false

/-
  A chunk's numbers, read out of a text (table.take), over this seat's translation; conditions: the Reader's block is there, at its text's beginning.
-/
namespace Go.Proofs.YtliiooldlooagaaGreatDoor.T9
open Go.RowKit

/-- The numbers of a chunk's text. -/
def rowF (s : ByteArray) : List Nat := (List.range 120).map fun k => valAt s (2 * k) 2
def rowTo (s : ByteArray) (k : Nat) : List Nat := ((List.range k).map fun j => valAt s (2 * j) 2) ++ nots (120 - k)
theorem rowTo_length (s : ByteArray) {k : Nat} (h : k ≤ 120) : (rowTo s k).length = 120 := by
  unfold rowTo; rw [List.length_append, List.length_map, List.length_range, nots_length]; omega
theorem rowTo_all (s : ByteArray) : rowTo s 120 = rowF s := by
  unfold rowTo rowF; exact List.append_nil _
theorem rowTo_set (s : ByteArray) {k : Nat} (h : k < 120) : (rowTo s k).set k (valAt s (2 * k) 2) = rowTo s (k + 1) := by
  unfold rowTo
  rw [List.set_append_right _ _ (by simp), List.length_map, List.length_range, Nat.sub_self, List.range_succ, List.map_append]
  have : nots (120 - k) = 0 :: nots (120 - (k + 1)) := by
    unfold nots
    rw [show 120 - k = (120 - (k + 1)) + 1 by omega, List.replicate_succ]
  rw [this, List.set_cons_zero]
  simp
theorem rowF_length (s : ByteArray) : (rowF s).length = 120 := by simp [rowF]
theorem rowF_at (s : ByteArray) {k : Nat} (h : k < 120) : (rowF s).getD k 0 = valAt s (2 * k) 2 := by
  unfold rowF; rw [List.getD_eq_getElem?_getD, List.getElem?_map, List.getElem?_range h]; rfl
/-- A row of sectors: its block. -/
def Rw (W : World) (b : Nat) (l : List Nat) : Prop := Blk W b 213 (u16C l).toArray ∧ l.length = 120
theorem Rw.keep {W W' : World} {b : Nat} {l : List Nat} {r : Option Nat} (h : Rw W b l) (g : W.grownBy W' r) (hr : some b ≠ r) : Rw W' b l := ⟨h.1.keep g hr, h.2⟩
theorem Rw.keep0 {W W' : World} {b : Nat} {l : List Nat} (h : Rw W b l) (g : W.grownBy W' none) : Rw W' b l := ⟨h.1.keep0 g, h.2⟩
theorem Rw.cell {W : World} {b : Nat} {l : List Nat} (h : Rw W b l) {k : Nat} (hk : k < 120) : W.cell? ⟨b, k, none⟩ = some (.int .u16 (l.getD k 0 : Nat)) := h.1.cell k (by rw [List.getElem?_toArray]; exact u16C_at (by rw [h.2]; exact hk))
theorem Rw.blk {W : World} {b : Nat} {l : List Nat} (h : Rw W b l) : Blk W b 213 (u16C l).toArray := h.1
theorem Rw.free {W : World} {b : Nat} {l : List Nat} (h : Rw W b l) (k : Nat) : W.frozen? ⟨b, k, none⟩ = false := h.1.free k
theorem Rw.set {W : World} {b : Nat} {l : List Nat} (h : Rw W b l) (k v : Nat) : Rw (W.setCell ⟨b, k, none⟩ (.int .u16 (v : Nat))) b (l.set k v) := by
  refine ⟨?_, by rw [List.length_set]; exact h.2⟩
  have := h.1.set k (.int .u16 (v : Nat))
  rw [List.setIfInBounds_toArray] at this
  unfold u16C at this ⊢
  rw [List.map_set]
  exact this
theorem zero_rw : Tryz.zeroCells213 = (u16C (nots 120)).toArray := by kernel_rfl
theorem Rw.mk (w : World) : Rw (w.alloc (.cells Tryz.zeroCells213 213)) w.heap.size (nots 120) := ⟨by rw [zero_rw]; exact Blk.mk _ _ _, nots_length _⟩
theorem Rw.mkZ (w : World) {Z : Array Value} (h : (u16C (nots 120)).toArray = Z) : Rw (w.alloc (.cells Z 213)) w.heap.size (nots 120) := ⟨by rw [h]; exact Blk.mk _ _ _, nots_length _⟩
theorem rw_info {l : List Nat} (h : l.length = 120) : (Tryz.prog.info? 213).map (·.size) = some (u16C l).toArray.size := by
  rw [List.size_toArray, u16C_length, h]; kernel_rfl
theorem rw_size {l r : List Nat} (hl : l.length = 120) (hr : r.length = 120) : (u16C l).toArray.size = (u16C r).toArray.size := by
  rw [List.size_toArray, List.size_toArray, u16C_length, u16C_length, hl, hr]
theorem rw_one (l : List Nat) : (u16C l).toArray.all (·.oneCell') = true := by
  rw [Array.all_eq_true_iff_forall_mem]; intro v hv; exact u16C_one l v (by simpa using hv)
theorem Rw.row {W : World} {b : Nat} {l : List Nat} (h : Rw W b l) {r : List Nat} (hr : r.length = 120) : Rw (W.setRow b (u16C r).toArray) b r := ⟨setRow_heap W b _ _ _ _ h.1, hr⟩
set_option maxRecDepth 100000 in
theorem Rw.load {W : World} {b : Nat} {l : List Nat} (h : Rw W b l) : (loadVar 213 ⟨b, 0, none⟩).run Tryz.prog W = .ok (.agg (u16C l).toArray) W := by
  have hl := load_row h.1 0 (u16C l) (fun j v hv => by rw [Nat.zero_add, List.getElem?_toArray]; exact hv)
  rw [u16C_length, h.2] at hl
  simp [loadVar, Sem.run_bind, Tryz.isAgg213, Tryz.sizeOf213, hl]
set_option maxRecDepth 100000 in
theorem index_row (l : List Nat) (hl : l.length = 120) (k : Nat) (hk : k < 120) (w : World) : (Instr.index 213 (.agg (u16C l).toArray) (.int .i64 (k : Nat))).run Tryz.prog w = .ok (.int .u16 (l.getD k 0 : Nat)) w := by
  have h := u16C_at (l := l) (k := k) (by omega)
  simp [Instr.index, asIntOf, Sem.run_bind, run_underlying Tryz.underlying213, Tryz.sizeOf23, part, Tryz.isAgg23, h, hk]
theorem zero_row (w : World) : (zeroValue 213).run Tryz.prog w = .ok (.agg (u16C (nots 120)).toArray) w := by kernel_rfl
set_option maxRecDepth 100000 in
/-- A row and an error, returned. -/
theorem row_res {fn : Func} {p q : Tmp} (h : fn.results = #[.cell p 213, .tmp q]) (tmps : Array Value) (w : World) (B : Nat) (l : List Nat) (v : Value)
    (hp : tmps.getD p undef = .pointer (some ⟨B, 0, none⟩)) (hq : tmps.getD q undef = v) (hb : Rw w B l) : (results fn tmps).run Tryz.prog w = .ok (.tuple #[.agg (u16C l).toArray, v]) w := by
  have r0 := hb.load
  have hp' : tmps[p]?.getD undef = .pointer (some ⟨B, 0, none⟩) := by simpa using hp
  have hq' : tmps[q]?.getD undef = v := by simpa using hq
  generalize (u16C l).toArray = C at r0 ⊢
  simp [results, h, hp', hq', asAddr, r0, Result.andThen]
/-- A whole value stored over another one, as the next operation of a drawn region. -/
theorem stA (T : TypeId) (old cs : Array Value) (p v b : Nat) {ops : Array Oper} {a : Act} {w : World} {K : Act → World → Prop} {Q : Exit → Act → World → Prop} {dst : Option Tmp} {ty : TypeId} {pos : String} {after : Array Edge} (hb : Blk w b T old) (hi : (Tryz.prog.info? T).map (·.size) = some cs.size) (hz : old.size = cs.size) (ho : cs.all (·.oneCell') = true)
    (hx : a.eval (.tmp p) = .pointer (some ⟨b, 0, none⟩)) (hy : a.eval (.tmp v) = .agg cs) (h : K (a.put dst undef) (w.setRow b cs)) :
    if Region.wanted ⟨dst, .store T (.tmp p) (.tmp v), ty, pos, after, none⟩ (yielded ops a.tmps) = true then Oper.wp Tryz.prog ⟨dst, .store T (.tmp p) (.tmp v), ty, pos, after, none⟩ a w K Q else K (a.put dst undef) w := by
  rw [if_pos (by rfl)]
  exact wp_store_row T (.tmp p) (.tmp v) rfl b cs hx hy T _ hb hi hz ho h
theorem exec_load {P : Program} {o : Oper} {a : Act} {w : World} (ty : TypeId) (x : Operand) (ho : o.op = .load ty x) (ad : Addr) (hx : a.eval x = .pointer (some ad)) (v : Value) (hr : (loadVar ty ad).run P w = .ok v w) : (execOp a.eval o).run P w = .ok (.value v) w := by
  unfold execOp
  simp only [ho, hx, Instr.loadAt, Instr.sureAddr, Sem.run_bind, Sem.run_pure, Result.andThen_ok, hr]
/-- What take makes of a text. -/
def TakeGot (w : World) (br : Nat) (s : ByteArray) (e : Ending) (w' : World) : Prop :=
  w.grownBy w' (some br) ∧
  ((s.size < 240 ∧ ∃ a : Nat, e = .returned (.tuple #[.agg (u16C (nots 120)).toArray, .iface 209 (.pointer (some ⟨a, 0, none⟩))]) ∧ w.heap.size ≤ a ∧ Ft w' a 3 ((2 * (s.size / 2) : Nat) : Int) ∧ Rd w' br s (2 * (s.size / 2))) ∨
   (s.size = 240 ∧ e = .returned (.tuple #[.agg (u16C (rowF s)).toArray, .nilIface])) ∨
   (240 < s.size ∧ ∃ a : Nat, e = .returned (.tuple #[.agg (u16C (rowF s)).toArray, .iface 209 (.pointer (some ⟨a, 0, none⟩))]) ∧ w.heap.size ≤ a ∧ Ft w' a 4 (240 : Nat) ∧ Rd w' br s 240))
set_option linter.unusedSimpArgs false in
set_option maxRecDepth 100000 in
set_option maxHeartbeats 2000000 in
theorem take_any (br : Nat) (s : ByteArray) (w : World) (h : Rd w br s 0) (hs : s.size ≤ 9223372036854775807) :
    Calls Tryz.prog 148 #[.pointer (some ⟨br, 0, none⟩)] w (TakeGot w br s) := by
  have hz := zero_row
  obtain ⟨Z, hZ⟩ : ∃ Z, (u16C (nots 120)).toArray = Z := ⟨_, rfl⟩
  rw [hZ] at hz
  have HZ := Lib.hid hZ
  have hbr := h.lt
  have HR := Lib.hid h
  clear h hZ
  go_enter Tryz.func148, Tryz.ntmps148
  go_wp2
  have b2 := (Rw.mkZ w HZ.out).keep0 (gb_alloc _ (.cells Z 213) none)
  have b4 := Rw.mkZ (w.alloc (.cells Z 213)) HZ.out
  have g0 : w.grownBy ((w.alloc (.cells Z 213)).alloc (.cells Z 213)) none := gb_trans (gb_alloc _ _ _) (gb_alloc _ _ _)
  simp only [World.size_alloc] at b4
  have r0 := HR.out.keep0 g0
  have hsz : ((w.alloc (.cells Z 213)).alloc (.cells Z 213)).heap.size = w.heap.size + 2 := by simp
  generalize (w.alloc (.cells Z 213)).alloc (.cells Z 213) = W0 at b2 b4 g0 r0 hsz ⊢
  have b4' : Rw W0 (w.heap.size + 1) (rowTo s 0) := by
    have : rowTo s 0 = nots 120 := rfl
    rw [this]; exact b4
  go_loopw [8] (fun v wr => ∃ k : Nat, k ≤ 120 ∧ v = .int .i64 k ∧ 2 * k ≤ s.size ∧ Rd wr br s (2 * k) ∧ Rw wr w.heap.size (nots 120) ∧ Rw wr (w.heap.size + 1) (rowTo s k) ∧ w.grownBy wr (some br) ∧ w.heap.size + 2 ≤ wr.heap.size) (fun v _ => 120 - (intOf v).toNat)
  case atStart => exact ⟨0, by omega, rfl, by omega, r0, b2, b4', gb_weak g0 _, by omega⟩
  case round =>
    obtain ⟨k, hk, rfl, hks, hR, hB2, hB4, hg, hsz2⟩ := hrel
    clear r0 b2 b4 b4' g0 hsz
    by_cases hlt : k < 120
    · by_cases hfit : 2 * k + 2 ≤ s.size
      · have HS := Lib.hid (rowTo_set s hlt)
        have hf4 := hB4.free k
        have HU := Lib.hid (u16_ok br s (2 * k) wr hR hfit hs)
        have HB := Lib.hid (And.intro hB2 (And.intro hB4 hg))
        have hcell := hB4.cell hlt
        have hvl := valAt_lt s (2 * k) 2
        generalize valAt s (2 * k) 2 = v at HS HU hvl
        clear hR hB2 hB4 hg
        go_wp2_with (go_at_call 158; (with_reducible refine HU.out.mono ?_); rintro e w3 ⟨rfl, hR3, g3⟩; have c3 := g3.cell hcell (ne_some (show w.heap.size + 1 ≠ br by omega)); have f3 := (HB.out.2.1.keep g3 (ne_some (by omega))).free k)
        have B4 := (HB.out.2.1.keep g3 (ne_some (by omega))).set k v
        rw [HS.out] at B4
        have HQ := Lib.hid (And.intro (hR3.keep (gb_set w3 (w.heap.size + 1) k none (.int .u16 (v : Nat))) (ne_some (by omega))) (And.intro ((HB.out.1.keep g3 (ne_some (by omega))).keep (gb_set w3 (w.heap.size + 1) k none (.int .u16 (v : Nat))) (ne_some (by omega))) (And.intro B4 (And.intro (gb_step (gb_trans HB.out.2.2 g3) (gb_set w3 (w.heap.size + 1) k none (.int .u16 (v : Nat))) (by omega)) (Nat.le_trans hsz2 (Nat.le_trans g3.size (gb_set w3 (w.heap.size + 1) k none (.int .u16 (v : Nat))).size))))))
        clear hR3 g3 c3 f3 B4
        go_roundw
        case rel => exact ⟨k + 1, by omega, by go_num, by omega, HQ.out.1, HQ.out.2.1, HQ.out.2.2.1, HQ.out.2.2.2.1, HQ.out.2.2.2.2⟩
        case measure => simp [intOf]; omega
      · have hp : 2 * k = 2 * (s.size / 2) := by omega
        have hsh : s.size < 240 := by omega
        have HU := Lib.hid (u16_short br s (2 * k) wr hR hks hs (by omega))
        have HB := Lib.hid (And.intro hB2 (And.intro hg (And.intro hR (And.intro hp hsh))))
        clear hR hB2 hB4 hg hp
        go_wp2_with (first
          | (go_at_call 158; (with_reducible refine HU.out.mono ?_); rintro e w3 ⟨rfl, hF3, g3⟩)
          | (refine wpList_store_row rfl 213 (.tmp 2) (.tmp 18) rfl w.heap.size Z rfl rfl 213 _ (HB.out.1.keep0 g3).1 (by rw [← HZ.out]; exact rw_info (nots_length _)) (by rw [← HZ.out]) (by rw [← HZ.out]; exact rw_one _) ?_))
        have hRw : Rw (w3.setRow w.heap.size Z) w.heap.size (nots 120) := by rw [← HZ.out]; exact (HB.out.1.keep0 g3).row (nots_length _)
        refine bodyPost_ret (row_res rfl _ _ w.heap.size (nots 120) _ rfl rfl hRw) rfl ⟨?_, Or.inl ⟨HB.out.2.2.2.2, wr.heap.size, rfl, by omega, ?_, ?_⟩⟩
        · exact gb_step (gb_trans HB.out.2.1 (gb_weak g3 _)) (gb_setRow _ _ _) (Nat.le_refl _)
        · have := hF3.keep (gb_setRow w3 w.heap.size Z) (ne_some (by omega))
          rw [HB.out.2.2.2.1] at this
          exact this
        · have := (HB.out.2.2.1.keep0 g3).keep (gb_setRow w3 w.heap.size Z) (ne_some (by omega))
          rw [HB.out.2.2.2.1] at this
          exact this
    · obtain rfl : k = 120 := by omega
      rw [rowTo_all] at hB4
      have hload : ∀ w', wr.grownBy w' (some w.heap.size) → (loadVar 213 ⟨w.heap.size + 1, 0, none⟩).run Tryz.prog w' = .ok (.agg (u16C (rowF s)).toArray) w' := fun w' g => (hB4.keep g (ne_some (by omega))).load
      have hci := rw_info (rowF_length s)
      have hcs := rw_size (nots_length 120) (rowF_length s)
      have hco := rw_one (rowF s)
      obtain ⟨C, hC⟩ : ∃ C, (u16C (rowF s)).toArray = C := ⟨_, rfl⟩
      rw [hC] at hload hci hcs hco
      have HC := Lib.hid (And.intro hci (And.intro hcs hco))
      have HL := Lib.hid hload
      have HCE := Lib.hid hC
      have HB := Lib.hid (And.intro hB2 (And.intro hg hR))
      clear hload hci hcs hco hC hB2 hB4 hg hR
      by_cases hend : 240 = s.size
      · go_wp2
        refine wp_region_noPanic ?_
        refine wp_region_held_drew (S := fun w' => wr.grownBy w' (some w.heap.size)) (by kernel_rfl) (gb_drew _ _) (fun hHeld => ?_)
        refine wpAnyH_take (i := 0) (v := .agg C) (List.getElem?_toArray.trans rfl) (by kernel_rfl) (by kernel_rfl) (by kernel_rfl) (fun _ _ _ h => h) (Or.inl ⟨by rfl, ?_⟩) hHeld ?_
        · intro w' hSw; exact exec_load 213 (.tmp 4) rfl ⟨w.heap.size + 1, 0, none⟩ rfl _ (HL.out w' hSw)
        try simp only [Act.put, List.setIfInBounds_toArray, List.set_cons_zero, List.set_cons_succ]
        refine wpAnyH_take (i := 1) (v := ?_) (List.getElem?_toArray.trans rfl) (by kernel_rfl) (by kernel_rfl) (by kernel_rfl) (fun _ _ _ h => h) (Or.inl ⟨by rfl, ?_⟩) hHeld ?_
        rotate_left
        · intro w' hSw; go_simp; try with_reducible rfl
        try simp only [Act.put, List.setIfInBounds_toArray, List.set_cons_zero, List.set_cons_succ]
        refine wpAnyH_ready (rs := [2]) (by kernel_rfl) (by simp) ?_
        refine AllReadyH.cons (List.getElem?_toArray.trans rfl) (fun K hK => ?_) AllReadyH.nil
        go_simp
        go_at_call 159
        (with_reducible refine (end_all br s 240 _ (HB.out.2.2.keep0 (gb_drew _ _)) hend hs).mono ?_)
        rintro e w3 ⟨rfl, g3⟩
        refine hK.out _ _ (gb_trans hHeld (gb_weak g3 _)) (fun hHeld => ?_)
        clear hK K
        try simp only [Act.put, List.setIfInBounds_toArray, List.set_cons_zero, List.set_cons_succ]
        refine wpAnyH_ready (rs := [3]) (by kernel_rfl) (by simp) ?_
        refine AllReadyH.cons (List.getElem?_toArray.trans rfl) (fun K hK => ?_) AllReadyH.nil
        have hB2' := HB.out.1.keep0 (gb_trans (gb_drew wr none) g3)
        with_reducible refine stA 213 (u16C (nots 120)).toArray C 2 24 w.heap.size hB2'.blk HC.out.1 HC.out.2.1 HC.out.2.2 ?hx ?hy ?_
        case hx => rfl
        case hy => rfl
        refine hK.out _ _ (gb_trans hHeld (gb_setRow _ _ _)) (fun hHeld => ?_)
        clear hK K
        try simp only [Act.put, List.setIfInBounds_toArray, List.set_cons_zero, List.set_cons_succ]
        refine wpAnyH_take (i := 4) (v := ?_) (List.getElem?_toArray.trans rfl) (by kernel_rfl) (by kernel_rfl) (by kernel_rfl) (fun _ _ _ h => h) (Or.inl ⟨by rfl, ?_⟩) hHeld ?_
        rotate_left
        · intro w' hSw; go_simp; try with_reducible rfl
        try simp only [Act.put, List.setIfInBounds_toArray, List.set_cons_zero, List.set_cons_succ]
        refine wpAnyH_done (by kernel_rfl) ?_ _
        refine NoPanic.normal ?_
        go_wp2
        have hRw : Rw (w3.setRow w.heap.size C) w.heap.size (rowF s) := by rw [← HCE.out]; exact hB2'.row (rowF_length s)
        refine bodyPost_ret (row_res rfl _ _ w.heap.size (rowF s) _ rfl rfl hRw) rfl ⟨?_, Or.inr (Or.inl ⟨hend.symm, rfl⟩)⟩
        exact gb_step (gb_trans HB.out.2.1 (gb_weak (gb_trans (gb_drew wr none) g3) _)) (gb_setRow _ _ _) (Nat.le_refl _)
      · go_wp2
        refine wp_region_noPanic ?_
        refine wp_region_held_drew (S := fun w' => wr.grownBy w' (some w.heap.size)) (by kernel_rfl) (gb_drew _ _) (fun hHeld => ?_)
        refine wpAnyH_take (i := 0) (v := .agg C) (List.getElem?_toArray.trans rfl) (by kernel_rfl) (by kernel_rfl) (by kernel_rfl) (fun _ _ _ h => h) (Or.inl ⟨by rfl, ?_⟩) hHeld ?_
        · intro w' hSw; exact exec_load 213 (.tmp 4) rfl ⟨w.heap.size + 1, 0, none⟩ rfl _ (HL.out w' hSw)
        try simp only [Act.put, List.setIfInBounds_toArray, List.set_cons_zero, List.set_cons_succ]
        refine wpAnyH_take (i := 1) (v := ?_) (List.getElem?_toArray.trans rfl) (by kernel_rfl) (by kernel_rfl) (by kernel_rfl) (fun _ _ _ h => h) (Or.inl ⟨by rfl, ?_⟩) hHeld ?_
        rotate_left
        · intro w' hSw; go_simp; try with_reducible rfl
        try simp only [Act.put, List.setIfInBounds_toArray, List.set_cons_zero, List.set_cons_succ]
        refine wpAnyH_ready (rs := [2]) (by kernel_rfl) (by simp) ?_
        refine AllReadyH.cons (List.getElem?_toArray.trans rfl) (fun K hK => ?_) AllReadyH.nil
        go_simp
        go_at_call 159
        (with_reducible refine (end_left br s 240 _ (HB.out.2.2.keep0 (gb_drew _ _)) (by omega) hs).mono ?_)
        rintro e w3 ⟨rfl, hF3, g3⟩
        refine hK.out _ _ (gb_trans hHeld (gb_weak g3 _)) (fun hHeld => ?_)
        clear hK K
        try simp only [Act.put, List.setIfInBounds_toArray, List.set_cons_zero, List.set_cons_succ]
        refine wpAnyH_ready (rs := [3]) (by kernel_rfl) (by simp) ?_
        refine AllReadyH.cons (List.getElem?_toArray.trans rfl) (fun K hK => ?_) AllReadyH.nil
        have hB2' := HB.out.1.keep0 (gb_trans (gb_drew wr none) g3)
        with_reducible refine stA 213 (u16C (nots 120)).toArray C 2 24 w.heap.size hB2'.blk HC.out.1 HC.out.2.1 HC.out.2.2 ?hx ?hy ?_
        case hx => rfl
        case hy => rfl
        refine hK.out _ _ (gb_trans hHeld (gb_setRow _ _ _)) (fun hHeld => ?_)
        clear hK K
        try simp only [Act.put, List.setIfInBounds_toArray, List.set_cons_zero, List.set_cons_succ]
        refine wpAnyH_take (i := 4) (v := ?_) (List.getElem?_toArray.trans rfl) (by kernel_rfl) (by kernel_rfl) (by kernel_rfl) (fun _ _ _ h => h) (Or.inl ⟨by rfl, ?_⟩) hHeld ?_
        rotate_left
        · intro w' hSw; go_simp; try with_reducible rfl
        try simp only [Act.put, List.setIfInBounds_toArray, List.set_cons_zero, List.set_cons_succ]
        refine wpAnyH_done (by kernel_rfl) ?_ _
        refine NoPanic.normal ?_
        go_wp2
        have hRw : Rw (w3.setRow w.heap.size C) w.heap.size (rowF s) := by rw [← HCE.out]; exact hB2'.row (rowF_length s)
        refine bodyPost_ret (row_res rfl _ _ w.heap.size (rowF s) _ rfl rfl hRw) rfl ⟨?_, Or.inr (Or.inr ⟨by omega, wr.heap.size, rfl, by omega, hF3.keep (gb_setRow w3 w.heap.size C) (ne_some (show wr.heap.size ≠ w.heap.size by omega)), (HB.out.2.2.keep0 (gb_trans (gb_drew wr none) g3)).keep (gb_setRow w3 w.heap.size C) (ne_some (by omega))⟩)⟩
        exact gb_step (gb_trans HB.out.2.1 (gb_weak (gb_trans (gb_drew wr none) g3) _)) (gb_setRow _ _ _) (Nat.le_refl _)
end Go.Proofs.YtliiooldlooagaaGreatDoor.T9

/-
  The sectors of a chunk's pages by the chunk's text (table.rowOf), over this seat's translation; condition: the variable errors.errorType holds its type's handle.
-/
namespace Go.Proofs.YtliiooldlooagaaGreatDoor.T9
open Go.RowKit

/-- A text of another length: a fault, at some place, is told beside a row. -/
def BadGot (w : World) (br : Nat) (s : ByteArray) (e : Ending) (w' : World) : Prop :=
  ∃ (a p : Nat) (c : Int) (L : List Nat), e = .returned (.tuple #[.agg (u16C L).toArray, .iface 209 (.pointer (some ⟨a, 0, none⟩))]) ∧ L.length = 120 ∧ w.heap.size ≤ a ∧ Ft w' a c p ∧ Rd w' br s p ∧ p ≤ s.size ∧ w.grownBy w' (some br)
theorem take_bad (br : Nat) (s : ByteArray) (w : World) (h : Rd w br s 0) (hs : s.size ≤ 9223372036854775807) (hb : s.size ≠ 240) :
    Calls Tryz.prog 148 #[.pointer (some ⟨br, 0, none⟩)] w (BadGot w br s) := by
  refine (take_any br s w h hs).mono ?_
  rintro e w' ⟨g, (⟨h1, a, he, ha, hf, hr⟩ | ⟨h1, _⟩ | ⟨h1, a, he, ha, hf, hr⟩)⟩
  · exact ⟨a, _, _, _, he, nots_length _, ha, hf, hr, by omega, g⟩
  · exact absurd h1 hb
  · exact ⟨a, 240, _, _, he, rowF_length s, ha, hf, hr, by omega, g⟩
theorem take_good (br : Nat) (s : ByteArray) (w : World) (h : Rd w br s 0) (hb : s.size = 240) :
    Calls Tryz.prog 148 #[.pointer (some ⟨br, 0, none⟩)] w fun e w' => e = .returned (.tuple #[.agg (u16C (rowF s)).toArray, .nilIface]) ∧ w.grownBy w' (some br) := by
  refine (take_any br s w h (by omega)).mono ?_
  rintro e w' ⟨g, (⟨h1, _⟩ | ⟨h1, he⟩ | ⟨h1, _⟩)⟩
  · omega
  · exact ⟨he, g⟩
  · omega
/-- What is told of a text: a fault's number and place; 0, if there is none. -/
def badB (n : Nat) : Bool := n == 1 || decide (1024 ≤ n)
def badAt (l : List Nat) : Nat := l.findIdx badB
def textC (s : ByteArray) : Nat × Nat := if s.size ≠ 240 then (4, s.size) else if badAt (rowF s) < 120 then (5, 2 * badAt (rowF s)) else (0, 0)
/-- What rowOf answers. -/
def RowGot (w : World) (s : ByteArray) (e : Ending) (w' : World) : Prop :=
  w.grownBy w' none ∧
  ((textC s).1 = 0 → e = .returned (.tuple #[.agg (u16C (rowF s)).toArray, .nilIface])) ∧
  ((textC s).1 ≠ 0 → ∃ a : Nat, e = .returned (.tuple #[.agg (u16C (nots 120)).toArray, .iface 209 (.pointer (some ⟨a, 0, none⟩))]) ∧ w.heap.size ≤ a ∧ Ft w' a ((textC s).1 : Nat) ((textC s).2 : Nat))
set_option linter.unusedSimpArgs false in
set_option maxRecDepth 100000 in
set_option maxHeartbeats 2000000 in
theorem rowOf_long (s : ByteArray) (w : World) (hd : Hd w) (hs : s.size ≤ 9223372036854775807) (hb : s.size ≠ 240) :
    Calls Tryz.prog 134 #[.string s] w fun e w' => w.grownBy w' none ∧ ∃ a : Nat, e = .returned (.tuple #[.agg (u16C (nots 120)).toArray, .iface 209 (.pointer (some ⟨a, 0, none⟩))]) ∧ w.heap.size ≤ a ∧ Ft w' a 4 (s.size : Nat) := by
  have hz := zero_row
  obtain ⟨Z, hZ⟩ : ∃ Z, (u16C (nots 120)).toArray = Z := ⟨_, rfl⟩
  rw [hZ] at hz
  have HZ := Lib.hid hZ
  have HD := Lib.hid hd
  have hd0 := hd.lt
  clear hZ hd
  go_enter Tryz.func134, Tryz.ntmps134
  go_wp2_with (first
    | (go_at_call 147; (with_reducible refine (new_any s _).mono ?_); rintro e w2 ⟨rfl, hw2⟩; have R2 : Rd w2 (w.heap.size + 1) s 0 := (by rw [hw2, ← World.size_alloc w (.cells Z 213)]; exact Blk.mk _ _ _); have B2 : Rw w2 w.heap.size (nots 120) := (by rw [hw2]; exact (Rw.mkZ w HZ.out).keep0 (gb_alloc _ _ _)); have g2 : w.grownBy w2 none := (by rw [hw2]; exact gb_trans (gb_alloc _ _ _) (gb_alloc _ _ _)); have s2 := R2.lt; clear hw2; simp only [World.size_alloc])
    | (go_at_call 148; (with_reducible refine (take_bad _ s _ R2 hs hb).mono ?_); rintro e w3 ⟨a, p, c, L, rfl, hL, ha, hf, hr, hp, g3⟩; have B3 := B2.keep g3 (ne_some (by omega)); have D3 := (HD.out.keep0 g2).keep g3 (ne_some (by omega)); have G3 := gb_step g2 g3 (by omega); have s3 := g3.size; have hi3 := rw_info hL; have hz3 : Z.size = (u16C L).toArray.size := (by rw [← HZ.out]; exact rw_size (nots_length _) hL); have ho3 := rw_one L; clear R2 B2 g2 g3; generalize (u16C L).toArray = C at hi3 hz3 ho3; have HI3 := Lib.hid (And.intro hi3 (And.intro hz3 ho3)); clear hi3 hz3 ho3)
    | (refine wpList_store_row rfl 213 (.tmp 5) (.tmp 15) rfl w3.heap.size C rfl rfl 213 _ (Blk.mk w3 213 Z) HI3.out.1 HI3.out.2.1 HI3.out.2.2 ?_; rw [World.setRow_alloc_new])
    | (go_at_call 149; (with_reducible refine (as_hit2 ⟨a, 0, none⟩ (w3.heap.size + 1) (.pointer none) _ (D3.keep0 (gb_trans (gb_alloc _ _ _) (gb_alloc _ _ _))) (by have := Blk.mk (w3.alloc (.cells C 213)) 209 #[.pointer none]; rw [World.size_alloc] at this; exact this)).mono ?_); rintro e w4 ⟨rfl, T4, g4⟩))
  have g40 : w3.grownBy w4 none := gb_later (gb_trans (gb_trans (gb_alloc w3 (.cells C 213) _) (gb_alloc _ (.cells #[.pointer none] 209) _)) g4) (by omega)
  have hf4 := hf.keep0 g40
  have hr4 := hr.keep0 g40
  have B4 := B3.keep0 g40
  have G4 := gb_trans G3 g40
  have s4 := g40.size
  have la := hf.lt
  have hsum : (p : Int) + ((s.size : Int) - (p : Int)) = (s.size : Int) := by omega
  have hsw : IntKind.i64.wrap (s.size : Int) = (s.size : Int) := IntWalk.i64_in _ (by omega)
  have HZ1 := Lib.hid (show (u16C (nots 120)).toArray.size = Z.size by rw [HZ.out])
  have hZ2 : (Tryz.prog.info? 213).map (·.size) = some Z.size := by rw [← HZ.out]; exact rw_info (nots_length _)
  have hZ3 : Z.all (·.oneCell') = true := by rw [← HZ.out]; exact rw_one _
  have HZ23 := Lib.hid (And.intro hZ2 hZ3)
  clear hf hr B3 G3 g40 g4 HI3 D3 hZ2 hZ3
  have lT := T4.lt
  have HH := Lib.hid (And.intro hf4 (And.intro hr4 (And.intro B4 (And.intro T4 G4))))
  clear hf4 hr4 B4 T4 G4
  refine wp_region_noPanic ?_
  refine wp_region_held_drew (S := fun w' => w4.grownBy w' (some w.heap.size)) (by kernel_rfl) (gb_drew _ _) (fun hHeld => ?_)
  refine wpAnyH_take (i := 0) (v := ?_) (List.getElem?_toArray.trans rfl) (by kernel_rfl) (by kernel_rfl) (by kernel_rfl) (fun _ _ _ h => h) (Or.inl ⟨by rfl, ?_⟩) hHeld ?_
  rotate_left
  · intro w' hSw; go_simp; try with_reducible rfl
  try simp only [Act.put, List.setIfInBounds_toArray, List.set_cons_zero, List.set_cons_succ]
  refine wpAnyH_take (i := 1) (v := ?_) (List.getElem?_toArray.trans rfl) (by kernel_rfl) (by kernel_rfl) (by kernel_rfl) (fun _ _ _ h => h) (Or.inl ⟨by rfl, ?_⟩) hHeld ?_
  rotate_left
  · intro w' hSw; have c7 := hSw.cell (Blk.cell HH.out.2.2.2.1 0 rfl) (ne_some (show w3.heap.size + 1 ≠ w.heap.size by omega)); go_simp; try with_reducible rfl
  try simp only [Act.put, List.setIfInBounds_toArray, List.set_cons_zero, List.set_cons_succ]
  refine wpAnyH_take (i := 2) (v := ?_) (List.getElem?_toArray.trans rfl) (by kernel_rfl) (by kernel_rfl) (by kernel_rfl) (fun _ _ _ h => h) (Or.inl ⟨by rfl, ?_⟩) hHeld ?_
  rotate_left
  · intro w' hSw; go_simp; try with_reducible rfl
  try simp only [Act.put, List.setIfInBounds_toArray, List.set_cons_zero, List.set_cons_succ]
  refine wpAnyH_take (i := 3) (v := ?_) (List.getElem?_toArray.trans rfl) (by kernel_rfl) (by kernel_rfl) (by kernel_rfl) (fun _ _ _ h => h) (Or.inl ⟨by rfl, ?_⟩) hHeld ?_
  rotate_left
  · intro w' hSw; go_simp; try with_reducible rfl
  try simp only [Act.put, List.setIfInBounds_toArray, List.set_cons_zero, List.set_cons_succ]
  refine wpAnyH_take (i := 4) (v := ?_) (List.getElem?_toArray.trans rfl) (by kernel_rfl) (by kernel_rfl) (by kernel_rfl) (fun _ _ _ h => h) (Or.inl ⟨by rfl, ?_⟩) hHeld ?_
  rotate_left
  · intro w' hSw; have c8 := hSw.cell (Blk.cell HH.out.1 1 rfl) (ne_some (show a ≠ w.heap.size by omega)); go_simp; try with_reducible rfl
  try simp only [Act.put, List.setIfInBounds_toArray, List.set_cons_zero, List.set_cons_succ]
  refine wpAnyH_take (i := 5) (v := ?_) (List.getElem?_toArray.trans rfl) (by kernel_rfl) (by kernel_rfl) (by kernel_rfl) (fun _ _ _ h => h) (Or.inl ⟨by rfl, ?_⟩) hHeld ?_
  rotate_left
  · intro w' hSw; go_simp; try with_reducible rfl
  try simp only [Act.put, List.setIfInBounds_toArray, List.set_cons_zero, List.set_cons_succ]
  refine wpAnyH_ready (rs := [6]) (by kernel_rfl) (by simp) ?_
  refine AllReadyH.cons (List.getElem?_toArray.trans rfl) (fun K hK => ?_) AllReadyH.nil
  go_simp
  go_at_call 150
  (with_reducible refine (left_any (w.heap.size + 1) s p _ (HH.out.2.1.keep0 (gb_drew _ _)) hp hs).mono ?_)
  rintro e w5 ⟨rfl, g5, hh5⟩
  clear hh5
  refine hK.out _ _ (gb_trans hHeld (gb_weak g5 _)) (fun hHeld => ?_)
  clear hK K
  try simp only [Act.put, List.setIfInBounds_toArray, List.set_cons_zero, List.set_cons_succ]
  have s5 := g5.size
  have g45 := gb_trans (gb_drew w4 none) g5
  have s45 := g45.size
  refine wpAnyH_take (i := 7) (v := ?_) (List.getElem?_toArray.trans rfl) (by kernel_rfl) (by kernel_rfl) (by kernel_rfl) (fun _ _ _ h => h) (Or.inl ⟨by rfl, ?_⟩) hHeld ?_
  rotate_left
  · intro w' hSw; go_simp; try with_reducible rfl
  try simp only [Act.put, List.setIfInBounds_toArray, List.set_cons_zero, List.set_cons_succ]
  refine wpAnyH_take (i := 8) (v := ?_) (List.getElem?_toArray.trans rfl) (by kernel_rfl) (by kernel_rfl) (by kernel_rfl) (fun _ _ _ h => h) (Or.inl ⟨by rfl, ?_⟩) hHeld ?_
  rotate_left
  · intro w' hSw; go_simp; try with_reducible rfl
  try simp only [Act.put, List.setIfInBounds_toArray, List.set_cons_zero, List.set_cons_succ]
  refine wpAnyH_ready (rs := [9, 11]) (by kernel_rfl) (by simp) ?_
  refine AllReadyH.cons (List.getElem?_toArray.trans rfl) (fun K hK => ?_) (AllReadyH.cons (List.getElem?_toArray.trans rfl) (fun K hK => ?_) AllReadyH.nil)
  · skip
    go_simp
    refine hK.out _ _ (gb_trans hHeld (gb_alloc _ _ _)) (fun hHeld => ?_)
    clear hK K
    try simp only [Act.put, List.setIfInBounds_toArray, List.set_cons_zero, List.set_cons_succ]
    refine wpAnyH_take (i := 10) (v := ?_) (List.getElem?_toArray.trans rfl) (by kernel_rfl) (by kernel_rfl) (by kernel_rfl) (fun _ _ _ h => h) (Or.inl ⟨by rfl, ?_⟩) hHeld ?_
    rotate_left
    · intro w' hSw; go_simp; try with_reducible rfl
    try simp only [Act.put, List.setIfInBounds_toArray, List.set_cons_zero, List.set_cons_succ]
    refine wpAnyH_ready (rs := [11]) (by kernel_rfl) (by simp) ?_
    refine AllReadyH.cons (List.getElem?_toArray.trans rfl) (fun K hK => ?_) AllReadyH.nil
    have hB := HH.out.2.2.1.keep0 (gb_trans g45 (gb_alloc w5 (.cells #[.int .i64 4, .int .i64 (s.size : Nat)] 211) none))
    with_reducible refine stA 213 (u16C (nots 120)).toArray Z 2 20 w.heap.size hB.blk HZ23.out.1 HZ1.out HZ23.out.2 ?hx ?hy ?_
    case hx => rfl
    case hy => rfl
    refine hK.out _ _ (gb_trans hHeld (gb_setRow _ _ _)) (fun hHeld => ?_)
    clear hK K
    try simp only [Act.put, List.setIfInBounds_toArray, List.set_cons_zero, List.set_cons_succ]
    refine wpAnyH_take (i := 12) (v := ?_) (List.getElem?_toArray.trans rfl) (by kernel_rfl) (by kernel_rfl) (by kernel_rfl) (fun _ _ _ h => h) (Or.inl ⟨by rfl, ?_⟩) hHeld ?_
    rotate_left
    · intro w' hSw; go_simp; try with_reducible rfl
    try simp only [Act.put, List.setIfInBounds_toArray, List.set_cons_zero, List.set_cons_succ]
    refine wpAnyH_done (by kernel_rfl) ?_ _
    refine NoPanic.normal ?_
    go_wp2
    refine bodyPost_ret (row_res rfl _ _ w.heap.size (nots 120) _ rfl rfl (by rw [← HZ.out]; exact hB.row (nots_length _))) rfl ⟨?_, w5.heap.size, rfl, by omega, ?_⟩
    · exact gb_step (gb_trans HH.out.2.2.2.2 (gb_trans g45 (gb_alloc w5 (.cells #[.int .i64 4, .int .i64 (s.size : Nat)] 211) none))) (gb_setRow _ _ _) (Nat.le_refl _)
    · exact Ft.keep (b := w5.heap.size) (c := 4) (p := (s.size : Nat)) (Blk.mk w5 _ _) (gb_setRow _ w.heap.size Z) (ne_some (show w5.heap.size ≠ w.heap.size by omega))
  · skip
    have hB := HH.out.2.2.1.keep0 g45
    with_reducible refine stA 213 (u16C (nots 120)).toArray Z 2 20 w.heap.size hB.blk HZ23.out.1 HZ1.out HZ23.out.2 ?hx ?hy ?_
    case hx => rfl
    case hy => rfl
    refine hK.out _ _ (gb_trans hHeld (gb_setRow _ _ _)) (fun hHeld => ?_)
    clear hK K
    try simp only [Act.put, List.setIfInBounds_toArray, List.set_cons_zero, List.set_cons_succ]
    refine wpAnyH_ready (rs := [9]) (by kernel_rfl) (by simp) ?_
    refine AllReadyH.cons (List.getElem?_toArray.trans rfl) (fun K hK => ?_) AllReadyH.nil
    go_simp
    refine hK.out _ _ (gb_trans hHeld (gb_alloc _ _ _)) (fun hHeld => ?_)
    clear hK K
    try simp only [Act.put, List.setIfInBounds_toArray, List.set_cons_zero, List.set_cons_succ]
    refine wpAnyH_take (i := 10) (v := ?_) (List.getElem?_toArray.trans rfl) (by kernel_rfl) (by kernel_rfl) (by kernel_rfl) (fun _ _ _ h => h) (Or.inl ⟨by rfl, ?_⟩) hHeld ?_
    rotate_left
    · intro w' hSw; go_simp; try with_reducible rfl
    try simp only [Act.put, List.setIfInBounds_toArray, List.set_cons_zero, List.set_cons_succ]
    refine wpAnyH_take (i := 12) (v := ?_) (List.getElem?_toArray.trans rfl) (by kernel_rfl) (by kernel_rfl) (by kernel_rfl) (fun _ _ _ h => h) (Or.inl ⟨by rfl, ?_⟩) hHeld ?_
    rotate_left
    · intro w' hSw; go_simp; try with_reducible rfl
    try simp only [Act.put, List.setIfInBounds_toArray, List.set_cons_zero, List.set_cons_succ]
    refine wpAnyH_done (by kernel_rfl) ?_ _
    refine NoPanic.normal ?_
    go_wp2
    have hN : (w5.setRow w.heap.size Z).heap.size = w5.heap.size := by simp
    refine bodyPost_ret (row_res rfl _ _ w.heap.size (nots 120) _ rfl rfl (by rw [← HZ.out]; exact (hB.row (nots_length _)).keep0 (gb_alloc _ _ _))) rfl ⟨?_, (w5.setRow w.heap.size Z).heap.size, by first | rfl | simp, by rw [hN]; omega, ?_⟩
    · exact gb_trans (gb_step (gb_trans HH.out.2.2.2.2 g45) (gb_setRow _ _ _) (Nat.le_refl _)) (gb_alloc _ _ _)
    · exact Blk.mk (w5.setRow w.heap.size Z) 211 #[.int .i64 4, .int .i64 (s.size : Nat)]
theorem badAt_hit {l : List Nat} {k : Nat} (hk : k < l.length) (h : badB (l.getD k 0) = true) (hb : ∀ j, j < k → badB (l.getD j 0) = false) : badAt l = k := by
  refine (List.findIdx_eq hk).2 ⟨?_, fun j hj => ?_⟩
  · rw [List.getD_eq_getElem?_getD, List.getElem?_eq_getElem hk] at h; exact h
  · have h1 := hb j hj
    rw [List.getD_eq_getElem?_getD, List.getElem?_eq_getElem (by omega)] at h1; exact h1
theorem badAt_none {l : List Nat} (hb : ∀ j, j < l.length → badB (l.getD j 0) = false) : ¬ badAt l < l.length := by
  intro h
  have h1 := List.findIdx_getElem (p := badB) (w := h)
  have h2 := hb _ h
  rw [List.getD_eq_getElem?_getD, List.getElem?_eq_getElem h] at h2
  have h3 : badB l[badAt l] = false := h2
  rw [show badB l[badAt l] = true from h1] at h3; cases h3
theorem badB_sect {x : Nat} (h : x ≠ 0) : badB x = !decide (IsSect (x : Int)) := by
  unfold badB
  by_cases h1 : x = 1
  · subst h1; rfl
  · by_cases h2 : 1024 ≤ x
    · rw [decide_eq_true h2, decide_eq_false (show ¬ IsSect (x : Int) from fun e => by have := e.2; omega)]; simp
    · rw [decide_eq_false h2, decide_eq_true (show IsSect (x : Int) from ⟨by omega, by omega⟩)]; simp [h1]
theorem rowF_small (s : ByteArray) (k : Nat) : (rowF s).getD k 0 < 65536 := by
  rcases Nat.lt_or_ge k 120 with h | h
  · rw [rowF_at s h]; have := valAt_lt s (2 * k) 2; omega
  · rw [List.getD_eq_getElem?_getD, List.getElem?_eq_none (by rw [rowF_length]; exact h)]; show (0 : Nat) < 65536; omega
set_option maxRecDepth 100000 in
set_option maxHeartbeats 2000000 in
theorem rowOf_240 (s : ByteArray) (w : World) (hd : Hd w) (hb : s.size = 240) :
    Calls Tryz.prog 134 #[.string s] w (RowGot w s) := by
  have hT : textC s = if badAt (rowF s) < 120 then (5, 2 * badAt (rowF s)) else (0, 0) := if_neg (by omega)
  have HT := Lib.hid hT
  have hlen := rowF_length s
  have hx := index_row (rowF s) hlen
  have hi3 := rw_info hlen
  have hz4 := rw_size (nots_length 120) hlen
  have ho3 := rw_one (rowF s)
  have hx0 := rowF_small s
  have hld : ∀ (b : Nat) (W : World), (loadVar 213 ⟨b, 0, none⟩).run Tryz.prog (W.alloc (.cells (u16C (rowF s)).toArray 213)) = (loadVar 213 ⟨b, 0, none⟩).run Tryz.prog (W.alloc (.cells (u16C (rowF s)).toArray 213)) := fun _ _ => rfl
  have hlo : ∀ (b : Nat) (W : World), Blk W b 213 (u16C (rowF s)).toArray → (loadVar 213 ⟨b, 0, none⟩).run Tryz.prog W = .ok (.agg (u16C (rowF s)).toArray) W := fun b W h => (show Rw W b (rowF s) from ⟨h, hlen⟩).load
  obtain ⟨C, hC⟩ : ∃ C, (u16C (rowF s)).toArray = C := ⟨_, rfl⟩
  rw [hC] at hx hi3 hz4 ho3 hlo
  have HCC := Lib.hid hC
  have HI3 := Lib.hid (And.intro hi3 ho3)
  have HLO := Lib.hid hlo
  have HX := Lib.hid hx
  have HX0 := Lib.hid hx0
  have HTG := Lib.hid (fun (br : Nat) (w : World) (h : Rd w br s 0) => by have := take_good br s w h hb; rw [hC] at this; exact this)
  clear hT hx hi3 ho3 hx0 hld hlo hC
  have hz := zero_row
  obtain ⟨Z, hZ⟩ : ∃ Z, (u16C (nots 120)).toArray = Z := ⟨_, rfl⟩
  rw [hZ] at hz
  have HZ := Lib.hid hZ
  have HD := Lib.hid hd
  have hd0 := hd.lt
  clear hZ hd
  go_enter Tryz.func134, Tryz.ntmps134
  go_wp2_with (first
    | (go_at_call 147; (with_reducible refine (new_any s _).mono ?_); rintro e w2 ⟨rfl, hw2⟩; have R2 : Rd w2 (w.heap.size + 1) s 0 := (by rw [hw2, ← World.size_alloc w (.cells Z 213)]; exact Blk.mk _ _ _); have B2 : Rw w2 w.heap.size (nots 120) := (by rw [hw2]; exact (Rw.mkZ w HZ.out).keep0 (gb_alloc _ _ _)); have g2 : w.grownBy w2 none := (by rw [hw2]; exact gb_trans (gb_alloc _ _ _) (gb_alloc _ _ _)); have s2 := R2.lt; clear hw2; simp only [World.size_alloc])
    | (go_at_call 148; (with_reducible refine (HTG.out _ _ R2).mono ?_); rintro e w3 ⟨rfl, g3⟩; have B3 := B2.keep g3 (ne_some (by omega)); have G3 := gb_step g2 g3 (by omega); have s3 := g3.size; have hz3 : Z.size = C.size := (by rw [← HZ.out]; exact hz4); have HZ3 := Lib.hid hz3; clear R2 B2 g2 g3 hz3)
    | (refine wpList_store_row rfl 213 (.tmp 5) (.tmp 15) rfl w3.heap.size C rfl rfl 213 _ (Blk.mk w3 213 Z) HI3.out.1 HZ3.out HI3.out.2 ?_; rw [World.setRow_alloc_new])
    | (go_at_call 149; (with_reducible refine (as_nil _ _).mono ?_); rintro e w4 ⟨rfl, rfl⟩)
    | (refine wpList_load_at rfl 213 (.tmp 5) rfl ⟨w3.heap.size, 0, none⟩ rfl _ (HLO.out _ _ ((Blk.mk w3 _ _).keep0 (gb_alloc _ _ _))) ?_))
  have k5 := (Blk.mk w3 213 C).keep0 (gb_alloc _ (.cells #[.pointer none] 209) none)
  have g4 : w3.grownBy ((w3.alloc (.cells C 213)).alloc (.cells #[.pointer none] 209)) none := gb_trans (gb_alloc _ _ _) (gb_alloc _ _ _)
  generalize (w3.alloc (.cells C 213)).alloc (.cells #[.pointer none] 209) = W4 at k5 g4 ⊢
  have B4 := B3.keep0 g4
  have G4 := gb_trans G3 g4
  have s4 := G4.size
  have HH := Lib.hid (And.intro B4 (And.intro G4 k5))
  clear B3 G3 g4 k5 B4 G4
  go_loopw [32] (fun i wr => ∃ k : Nat, k ≤ 120 ∧ i = .int .i64 k ∧ Hid (∀ j, j < k → badB ((rowF s).getD j 0) = false) ∧ W4 = wr) (fun i _ => 120 - (intOf i).toNat)
  case atStart => exact ⟨0, by omega, rfl, Lib.hid (fun j hj => by omega), rfl⟩
  case round =>
    obtain ⟨k, hk, rfl, HN, rfl⟩ := hrel
    by_cases hlt : k < 120
    · have hix := HX.out k hlt
      have hxb := HX0.out k
      obtain ⟨x, hxe⟩ : ∃ x, (rowF s).getD k 0 = x := ⟨_, rfl⟩
      rw [hxe] at hix hxb
      have HE := Lib.hid hxe
      have hxw : IntKind.i64.wrap (x : Int) = (x : Int) := IntWalk.i64_in _ (by omega)
      clear hxe
      by_cases h0 : x = 0
      · subst h0
        go_wp2
        go_roundw
        case rel =>
          refine ⟨k + 1, by omega, by go_num, Lib.hid (fun j hj => ?_), by simp⟩
          rcases Nat.lt_or_ge j k with h | h
          · exact HN.out j h
          · obtain rfl : j = k := by omega
            rw [HE.out]; rfl
        case measure => simp [intOf]; omega
      · have hne : ((x : Int) != 0) = true := by simp; omega
        have hne2 : ((x : Int) == 0) = false := by simp; omega
        have HBB := Lib.hid (badB_sect h0)
        by_cases hsc : IsSect (x : Int)
        · have HSC := Lib.hid hsc
          clear hsc
          go_wp2_with (go_at_call 108; (with_reducible refine (isSect_is _ (decide_eq_true HSC.out)).mono ?_); rintro e w' ⟨rfl, rfl⟩)
          go_roundw
          case rel =>
            refine ⟨k + 1, by omega, by go_num, Lib.hid (fun j hj => ?_), by simp⟩
            rcases Nat.lt_or_ge j k with h | h
            · exact HN.out j h
            · obtain rfl : j = k := by omega
              rw [HE.out, HBB.out, decide_eq_true HSC.out]; rfl
          case measure => simp [intOf]; omega
        · have HSC := Lib.hid hsc
          have hbk := badAt_hit (l := rowF s) (k := k) (by rw [hlen]; exact hlt) (by rw [HE.out, HBB.out, decide_eq_false HSC.out]; rfl) HN.out
          have HT2 : Hid (textC s = (5, 2 * k)) := Lib.hid (by rw [HT.out, hbk, if_pos hlt])
          have hm : (k : Int) * 2 = ((2 * k : Nat) : Int) := by omega
          have hmw : IntKind.i64.wrap ((2 * k : Nat) : Int) = ((2 * k : Nat) : Int) := IntWalk.i64_in _ (by omega)
          obtain ⟨m, hme⟩ : ∃ m, 2 * k = m := ⟨_, rfl⟩
          rw [hme] at hm hmw HT2
          have HZ2 := Lib.hid (show (Tryz.prog.info? 213).map (·.size) = some Z.size by rw [← HZ.out]; exact rw_info (nots_length _))
          have HZ4 := Lib.hid (show (u16C (nots 120)).toArray.size = Z.size by rw [HZ.out])
          have HZ5 := Lib.hid (show Z.all (·.oneCell') = true by rw [← HZ.out]; exact rw_one _)
          clear hsc hbk hme
          go_wp2_with (first
            | (go_at_call 108; (with_reducible refine (isSect_is _ (decide_eq_false HSC.out)).mono ?_); rintro e w' ⟨rfl, rfl⟩)
            | (refine wpList_store_row rfl 213 (.tmp 2) (.tmp 44) rfl w.heap.size Z rfl rfl 213 _ (HH.out.1.keep0 (gb_alloc _ _ _)).blk HZ2.out HZ4.out HZ5.out ?_))
          have hRw := (HH.out.1.keep0 (gb_alloc W4 (.cells #[.int .i64 5, .int .i64 (m : Nat)] 211) none)).row (nots_length 120)
          rw [HZ.out] at hRw
          refine bodyPost_ret (row_res rfl _ _ w.heap.size (nots 120) _ rfl rfl hRw) rfl ⟨?_, fun h => ?_, fun _ => ⟨W4.heap.size, rfl, s4, ?_⟩⟩
          · exact gb_step (gb_trans HH.out.2.1 (gb_alloc W4 (.cells #[.int .i64 5, .int .i64 (m : Nat)] 211) none)) (gb_setRow _ _ _) (Nat.le_refl _)
          · rw [HT2.out] at h; cases h
          · rw [HT2.out]
            exact Ft.keep (b := W4.heap.size) (c := 5) (p := (m : Nat)) (Blk.mk W4 _ _) (gb_setRow _ w.heap.size Z) (ne_some (Nat.ne_of_gt HH.out.1.blk.lt))
    · obtain rfl : k = 120 := by omega
      have hno := badAt_none (l := rowF s) (fun j hj => HN.out j (by rw [hlen] at hj; exact hj))
      rw [hlen] at hno
      have HT2 : Hid (textC s = (0, 0)) := Lib.hid (by rw [HT.out, if_neg hno])
      have HZ4 := Lib.hid (show (u16C (nots 120)).toArray.size = C.size by rw [HZ.out]; exact HZ3.out)
      clear hno
      go_wp2_with (first
        | (refine wpList_load_at rfl 213 (.tmp 5) rfl ⟨w3.heap.size, 0, none⟩ rfl _ (HLO.out _ _ HH.out.2.2) ?_)
        | (refine wpList_store_row rfl 213 (.tmp 2) (.tmp 51) rfl w.heap.size C rfl rfl 213 _ HH.out.1.blk HI3.out.1 HZ4.out HI3.out.2 ?_))
      have hRw := HH.out.1.row hlen
      rw [HCC.out] at hRw
      refine bodyPost_ret (row_res rfl _ _ w.heap.size (rowF s) _ rfl rfl hRw) rfl ⟨?_, fun _ => rfl, fun h => ?_⟩
      · exact gb_step HH.out.2.1 (gb_setRow _ _ _) (Nat.le_refl _)
      · rw [HT2.out] at h; exact absurd rfl h
theorem rowOf_any (s : ByteArray) (w : World) (hd : Hd w) (hs : s.size ≤ 9223372036854775807) :
    Calls Tryz.prog 134 #[.string s] w (RowGot w s) := by
  by_cases hb : s.size = 240
  · exact rowOf_240 s w hd hb
  · have hT : textC s = (4, s.size) := if_pos hb
    refine (rowOf_long s w hd hs hb).mono ?_
    rintro e w' ⟨g, h⟩
    refine ⟨g, fun h0 => ?_, fun _ => ?_⟩
    · rw [hT] at h0; cases h0
    · rw [hT]; exact h
end Go.Proofs.YtliiooldlooagaaGreatDoor.T9

/-
  What the program's Load answers and leaves, over this seat's translation; conditions: the table's block is there, the variable errors.errorType holds its type's handle.
-/
namespace Go.Proofs.YtliiooldlooagaaGreatDoor.T9
open Go.RowKit

def loadC (i : Int) (t : ByteArray) : Nat × Nat := if 0 ≤ i ∧ i < 8 then textC t else (2, 0)
def layF (s : TB) (a : Nat) (r : List Nat) : TB := ⟨s.P.take a ++ r ++ s.P.drop (a + 120), s.D⟩
def offF (s : TB) (i : Nat) : TB := ⟨s.P, s.D.set i false⟩
def loadF (s : TB) (i : Int) (t : ByteArray) : TB := if (loadC i t).1 = 0 then offF (layF s (120 * i.toNat) (rowF t)) i.toNat else s
theorem textC_ok {t : ByteArray} (h : (textC t).1 = 0) : t.size = 240 ∧ ∀ x ∈ rowF t, x < 1024 := by
  unfold textC at h
  by_cases h1 : t.size = 240
  · rw [if_neg (fun e => e h1)] at h
    by_cases h2 : badAt (rowF t) < 120
    · rw [if_pos h2] at h; cases h
    · refine ⟨h1, fun x hx => ?_⟩
      obtain ⟨j, hj, rfl⟩ := List.mem_iff_getElem.1 hx
      rcases Nat.lt_or_ge (rowF t)[j] 1024 with h3 | h3
      · exact h3
      · exfalso
        apply h2
        have h4 : badB (rowF t)[j] = true := by unfold badB; rw [decide_eq_true h3]; simp
        have h5 : badAt (rowF t) < (rowF t).length := List.findIdx_lt_length_of_exists ⟨_, List.getElem_mem hj, h4⟩
        rw [rowF_length] at h5; exact h5
  · rw [if_pos h1] at h; cases h
theorem layF_fit {s : TB} (h : s.Fit) {a : Nat} (ha : a + 120 ≤ 960) {r : List Nat} (hr : r.length = 120) (hx : ∀ x ∈ r, x < 1024) : (layF s a r).Fit := by
  have hl := h.1
  refine ⟨?_, h.2.1, fun x hm => ?_⟩
  · unfold layF; simp only [List.length_append, List.length_take, List.length_drop]; omega
  · unfold layF at hm
    simp only [List.mem_append] at hm
    rcases hm with (h1 | h1) | h1
    · exact h.2.2 x (List.mem_of_mem_take h1)
    · exact hx x h1
    · exact h.2.2 x (List.mem_of_mem_drop h1)
theorem offF_fit {s : TB} (h : s.Fit) (i : Nat) : (offF s i).Fit := ⟨h.1, by unfold offF; rw [List.length_set]; exact h.2.1, h.2.2⟩
theorem loadF_fit {s : TB} (h : s.Fit) (i : Int) (t : ByteArray) : (loadF s i t).Fit := by
  unfold loadF
  split
  · rename_i h0
    unfold loadC at h0
    by_cases hi : 0 ≤ i ∧ i < 8
    · rw [if_pos hi] at h0
      exact offF_fit (layF_fit h (by omega) (rowF_length t) (textC_ok h0).2) _
    · rw [if_neg hi] at h0; cases h0
  · exact h
theorem tabC_lay {s : TB} (h : s.Fit) {a : Nat} (ha : a + 120 ≤ 960) {r : List Nat} (hr : r.length = 120) : ((tabC s).toArray.toList.take a ++ u16C r ++ (tabC s).toArray.toList.drop (a + (u16C r).length)).toArray = (tabC (layF s a r)).toArray := by
  congr 1
  show (tabC s).take a ++ u16C r ++ (tabC s).drop (a + (u16C r).length) = _
  have hl : (u16C s.P).length = 960 := by rw [u16C_length]; exact h.1
  unfold tabC layF
  rw [u16C_length, hr, List.take_append_of_le_length (by omega), List.drop_append_of_le_length (by omega)]
  simp [u16C, List.map_take, List.map_drop]
theorem copy_tab {W : World} {p b a : Nat} {s : TB} {r : List Nat} (h : PT W p s) (hr : Rw W b r) (ha : a + 120 ≤ 960) (ty : TypeId) :
    (Builtin.copy_ #[189, 189] ty #[.slice (some ⟨p, a, none⟩) 120 120, .slice (some ⟨b, 0, none⟩) 120 120]).run Tryz.prog W = .ok (.int .i64 120) (W.setRow p (tabC (layF s a r)).toArray) := by
  have hcell : ∀ j u, (u16C r)[j]? = some u → W.cell? ((⟨b, 0, none⟩ : Addr).add j) = some u := by
    intro j u hj
    rw [add_at, Nat.zero_add]
    exact hr.blk.cell j (by rw [List.getElem?_toArray]; exact hj)
  have := run_copy_row (P := Tryz.prog) W 189 189 ty 23 p a 120 120 ⟨b, 0, none⟩ 120 120 (tabC s).toArray 125 (u16C r) Tryz.underlying189 (by kernel_rfl) h.1 (by rw [u16C_length, hr.2]; rfl) hcell (by rw [u16C_length, hr.2, List.size_toArray, tabC_length h.2]; omega) (u16C_one r)
  rw [tabC_lay h.2 ha hr.2, u16C_length, hr.2] at this
  exact this
theorem load_nil (i : Int) (t : ByteArray) (w : World) : Calls Tryz.prog 111 #[.pointer none, .int .i64 i, .string t] w fun e w' => e = .returned (.iface 209 (.pointer (some ⟨w.heap.size, 0, none⟩))) ∧ Ft w' w.heap.size 1 0 ∧ w.grownBy w' none := by
  go_enter Tryz.func111, Tryz.ntmps111
  go_wp2
  go_ret
  exact ⟨rfl, Blk.mk _ _ _, gb_alloc _ _ _⟩
/-- What a Load answers and leaves. -/
def LoadGot (w : World) (p : Nat) (s : TB) (i : Int) (t : ByteArray) (e : Ending) (w' : World) : Prop :=
  PT w' p (loadF s i t) ∧ w.grownBy w' (some p) ∧
  ((loadC i t).1 = 0 → e = .returned .nilIface) ∧
  ((loadC i t).1 ≠ 0 → ∃ a : Nat, e = .returned (.iface 209 (.pointer (some ⟨a, 0, none⟩))) ∧ w.heap.size ≤ a ∧ Ft w' a ((loadC i t).1 : Nat) ((loadC i t).2 : Nat))
set_option maxRecDepth 100000 in
set_option maxHeartbeats 2000000 in
theorem load_any (p : Nat) (s : TB) (i : Int) (t : ByteArray) (w : World) (h : PT w p s) (hd : Hd w) (ht : t.size ≤ 9223372036854775807) :
    Calls Tryz.prog 111 #[.pointer (some ⟨p, 0, none⟩), .int .i64 i, .string t] w (LoadGot w p s i t) := by
  by_cases hi : 0 ≤ i ∧ i < 8
  · have hC : loadC i t = textC t := if_pos hi
    obtain ⟨c, rfl, hc⟩ : ∃ c : Nat, i = (c : Int) ∧ c < 8 := ⟨i.toNat, by omega, by omega⟩
    have HI := Lib.hid hi
    have HP := Lib.hid h
    have hpl := h.lt
    have HR := Lib.hid (rowOf_any t w hd ht)
    by_cases h0 : (textC t).1 = 0
    · have hF : loadF s c t = offF (layF s (120 * c) (rowF t)) c := by unfold loadF; rw [hC, if_pos h0, Int.toNat_natCast]
      have HF := Lib.hid (And.intro hF (And.intro hC h0))
      have hz := zero_row
      obtain ⟨Z, hZ⟩ : ∃ Z, (u16C (nots 120)).toArray = Z := ⟨_, rfl⟩
      rw [hZ] at hz
      have HZ := Lib.hid hZ
      have hlen := rowF_length t
      have hfin := layF_fit h.fit (a := 120 * c) (by omega) hlen (textC_ok h0).2
      obtain ⟨a, ha⟩ : ∃ a : Nat, 120 * c = a := ⟨_, rfl⟩
      rw [ha] at hF hfin HF
      have ha2 : a + 120 ≤ 960 := by omega
      have HA := Lib.hid ha
      have hz5 : Z.size = (u16C (rowF t)).toArray.size := by rw [← hZ]; exact rw_size (nots_length _) hlen
      have HI3 := Lib.hid (And.intro (rw_info hlen) (And.intro hz5 (rw_one (rowF t))))
      have HCF := Lib.hid (And.intro hlen hfin)
      generalize (u16C (rowF t)).toArray.size = sz at hz5
      obtain ⟨C, hCC⟩ : ∃ C, (u16C (rowF t)).toArray = C := ⟨_, rfl⟩
      have HCC := Lib.hid hCC
      rw [hCC] at HI3
      clear hi h hd hC h0 hF hZ hlen hfin ha hz5 hCC
      go_enter Tryz.func111, Tryz.ntmps111
      go_wp2_with (first
        | (go_at_call 113; (with_reducible refine (isChunk_is _ (decide_eq_true HI.out)).mono ?_); rintro e w' ⟨rfl, rfl⟩)
        | (go_at_call 134; (with_reducible refine HR.out.mono ?_); rintro e w2 ⟨g2, hok, _⟩; have he := hok HF.out.2.2; subst he; clear hok; rw [HCC.out])
        | (refine wpList_store_row rfl 213 (.tmp 7) (.tmp 23) rfl w2.heap.size C rfl rfl 213 _ (Blk.mk w2 213 Z) HI3.out.1 HI3.out.2.1 HI3.out.2.2 ?_; rw [World.setRow_alloc_new]))
      have P3 := (HP.out.keep0 g2).keep0 (gb_alloc w2 (.cells C 213) none)
      have R3 : Rw (w2.alloc (.cells C 213)) w2.heap.size (rowF t) := ⟨by rw [HCC.out]; exact Blk.mk _ _ _, HCF.out.1⟩
      have G3 := gb_trans g2 (gb_alloc w2 (.cells C 213) none)
      have s2 := g2.size
      generalize w2.alloc (.cells C 213) = W3 at P3 R3 G3 ⊢
      generalize w2.heap.size = b at R3 s2 ⊢
      have HPR := Lib.hid (And.intro P3 (And.intro R3 G3))
      clear P3 R3 G3
      go_region_with (go_at_call 114
                      (with_reducible refine (chunk_any p c a _ hc HA.out).mono ?_)
                      rintro e w' ⟨rfl, rfl⟩
                      have cp := fun ty => copy_tab (HPR.out.1.keep0 (gb_drew W3 none)) (HPR.out.2.1.keep0 (gb_drew W3 none)) ha2 ty)
      all_goals
        have P4 : PT (W3.drew.setRow p (tabC (layF s a (rowF t))).toArray) p (layF s a (rowF t)) := ⟨setRow_heap _ _ _ _ _ _ (HPR.out.1.keep0 (gb_drew W3 none)).1, HCF.out.2⟩
        have G4 : w.grownBy (W3.drew.setRow p (tabC (layF s a (rowF t))).toArray) (some p) := gb_trans (gb_weak (gb_trans HPR.out.2.2 (gb_drew W3 none)) _) (gb_setRow _ _ _)
        generalize W3.drew.setRow p (tabC (layF s a (rowF t))).toArray = W4 at P4 G4 ⊢
        have c4 := P4.dirt (k := c) hc
        have f4 := P4.free (960 + c)
        have HQ := Lib.hid (And.intro (P4.setDirt c false) (gb_trans G4 (gb_set W4 p (960 + c) none (.bool false))))
        clear P4 G4 cp
        go_wp2
        go_ret
        refine ⟨?_, HQ.out.2, fun _ => rfl, fun h => ?_⟩
        · rw [HF.out.1]; exact HQ.out.1
        · rw [HF.out.2.1] at h; exact absurd HF.out.2.2 h
    · have hF : loadF s c t = s := by unfold loadF; rw [hC, if_neg h0]
      have HF := Lib.hid (And.intro hF (And.intro hC h0))
      have hz := zero_row
      obtain ⟨Z, hZ⟩ : ∃ Z, (u16C (nots 120)).toArray = Z := ⟨_, rfl⟩
      rw [hZ] at hz
      have HZ := Lib.hid hZ
      have HI3 := Lib.hid (And.intro (rw_info (nots_length 120)) (rw_one (nots 120)))
      rw [hZ] at HI3
      clear hi h hd hC h0 hF hZ
      go_enter Tryz.func111, Tryz.ntmps111
      go_wp2_with (first
        | (go_at_call 113; (with_reducible refine (isChunk_is _ (decide_eq_true HI.out)).mono ?_); rintro e w' ⟨rfl, rfl⟩)
        | (go_at_call 134; (with_reducible refine HR.out.mono ?_); rintro e w2 ⟨g2, _, hno⟩; obtain ⟨a, he, ha, hf⟩ := hno HF.out.2.2; subst he; clear hno; rw [HZ.out])
        | (refine wpList_store_row rfl 213 (.tmp 7) (.tmp 23) rfl w2.heap.size Z rfl rfl 213 _ (Blk.mk w2 213 Z) HI3.out.1 rfl HI3.out.2 ?_; rw [World.setRow_alloc_new]))
      go_ret
      refine ⟨?_, gb_weak (gb_trans g2 (gb_alloc _ _ _)) _, fun h => ?_, fun _ => ⟨a, rfl, ha, ?_⟩⟩
      · rw [HF.out.1]; exact (HP.out.keep0 g2).keep0 (gb_alloc _ _ _)
      · rw [HF.out.2.1] at h; exact absurd h HF.out.2.2
      · rw [HF.out.2.1]; exact hf.keep0 (gb_alloc _ _ _)
  · have hC : loadC i t = (2, 0) := if_neg hi
    have hF : loadF s i t = s := by unfold loadF; rw [hC]; rfl
    have HF := Lib.hid (And.intro hF hC)
    have HI := Lib.hid hi
    have HP := Lib.hid h
    clear hi h hd hC hF
    go_enter Tryz.func111, Tryz.ntmps111
    go_wp2_with (go_at_call 113; (with_reducible refine (isChunk_is _ (decide_eq_false HI.out)).mono ?_); rintro e w' ⟨rfl, rfl⟩)
    go_ret
    refine ⟨?_, gb_weak (gb_alloc _ _ _) _, fun h => ?_, fun _ => ⟨w.heap.size, rfl, Nat.le_refl _, ?_⟩⟩
    · rw [HF.out.1]; exact HP.out.keep0 (gb_alloc _ _ _)
    · rw [HF.out.2] at h; cases h
    · rw [HF.out.2]; exact Blk.mk _ _ _
end Go.Proofs.YtliiooldlooagaaGreatDoor.T9

/-
  Plain mathematics of TableBack: what a change makes of pages and chunks, and what a table becomes into which chunks are loaded, over this seat's translation; conditions: those that each law states.
-/
namespace Go.Proofs.YtliiooldlooagaaGreatDoor.T9
open Go.RowKit

/-- No page stands in sector 1. -/
def NoOne (P : List Nat) : Prop := ∀ x ∈ P, x ≠ 1
theorem noOne_new : NoOne newF.P := fun x h => by
  have := List.eq_of_mem_replicate (show x ∈ List.replicate 960 0 from h); omega
theorem noOne_set {P : List Nat} (h : NoOne P) (k v : Nat) (hv : v ≠ 1) : NoOne (P.set k v) := fun x hx => by
  rcases List.mem_or_eq_of_mem_set hx with h1 | h1
  · exact h x h1
  · rw [h1]; exact hv
theorem set_same_at {P : List Nat} {k v : Nat} (h : P.getD k 0 = v) : P.set k v = P := by
  refine List.ext_getElem? fun j => ?_
  rw [List.getElem?_set]
  split
  · rename_i e; subst e
    split
    · rename_i h2
      rw [List.getD_eq_getElem?_getD, List.getElem?_eq_getElem h2] at h
      rw [List.getElem?_eq_getElem h2, ← h]; rfl
    · rename_i h2
      exact (List.getElem?_eq_none (by omega)).symm
  · rfl
theorem putF_P (s : TB) (k v : Nat) : (putF s k v).P = s.P.set k v := by
  unfold putF
  split
  · rename_i h; exact (set_same_at h).symm
  · rfl
def textB (P : List Nat) (i : Nat) : ByteArray := ⟨(chunkF P (i : Nat)).toArray⟩
theorem textB_is (P : List Nat) {i : Nat} (h : i < 8) : textB P i = ⟨(chunkB P i).toArray⟩ := by
  unfold textB chunkF; rw [if_pos ⟨by omega, by omega⟩, Int.toNat_natCast]
/-- A chunk's text is of its own pages. -/
theorem chunkB_set (P : List Nat) (k v i : Nat) (h : k / 120 ≠ i) : chunkB (P.set k v) i = chunkB P i := by
  unfold chunkB chunkTo
  congr 1
  refine List.ext_getElem? fun j => ?_
  rw [List.getElem?_take, List.getElem?_take]
  split
  · rw [List.getElem?_drop, List.getElem?_drop, List.getElem?_set, if_neg (by omega)]
  · rfl
/-- Each chunk that is not dirty has the text that is kept of it. -/
def CI (s : TB) (C : List ByteArray) : Prop := C.length = 8 ∧ ∀ i, i < 8 → s.D.getD i false = false → C.getD i ⟨#[]⟩ = textB s.P i
theorem getD_set_off {D : List Bool} {a i : Nat} (hl : a < D.length) (h : (D.set a true).getD i false = false) : a ≠ i ∧ D.getD i false = false := by
  rw [List.getD_eq_getElem?_getD, List.getElem?_set] at h
  by_cases e : a = i
  · rw [if_pos e, if_pos hl] at h; cases h
  · rw [if_neg e] at h; exact ⟨e, by rw [List.getD_eq_getElem?_getD]; exact h⟩
theorem ci_put {s : TB} {C : List ByteArray} (hf : s.Fit) (h : CI s C) (k v : Nat) (hk : k < 960) : CI (putF s k v) C := by
  refine ⟨h.1, fun i hi hd => ?_⟩
  by_cases e : s.P.getD k 0 = v
  · have : putF s k v = s := if_pos e
    rw [this] at hd ⊢
    exact h.2 i hi hd
  · have : putF s k v = ⟨s.P.set k v, s.D.set (k / 120) true⟩ := if_neg e
    rw [this] at hd ⊢
    obtain ⟨h1, h2⟩ := getD_set_off (by rw [hf.2.1]; omega) hd
    rw [h.2 i hi h2, textB_is _ hi, textB_is _ hi, chunkB_set _ _ _ _ h1]
theorem flat_at : ∀ (l : List Nat) (k : Nat), k < l.length → ((l.flatMap fun n => digits n 2).drop (2 * k)).take 2 = digits (l.getD k 0) 2
  | [], k, h => absurd h (Nat.not_lt_zero k)
  | n :: l, 0, _ => by
    rw [List.flatMap_cons, Nat.mul_zero, List.drop_zero, List.take_append_of_le_length (by rw [digits_length]; omega), List.take_of_length_le (by rw [digits_length]; omega)]; rfl
  | n :: l, k + 1, h => by
    have ih := flat_at l k (by simpa using h)
    rw [List.flatMap_cons, List.drop_append, digits_length, List.drop_of_length_le (l := digits n 2) (by rw [digits_length]; omega), List.nil_append, show 2 * (k + 1) - 2 = 2 * k by omega, ih]; rfl
theorem nat8_two (n : Nat) (h : n < 65536) : nat8 (digits n 2) = n := by
  show ((0 * 256 + (UInt8.ofNat (n / 256 % 256)).toNat) * 256 + (UInt8.ofNat (n % 256)).toNat) = n
  simp only [UInt8.toNat_ofNat']
  omega
theorem textB_size {P : List Nat} (hP : P.length = 960) {i : Nat} (hi : i < 8) : (textB P i).size = 240 := by
  rw [textB_is P hi]
  show (chunkB P i).toArray.size = 240
  rw [List.size_toArray]
  unfold chunkB
  rw [chunkTo_length hP hi (by omega)]
theorem rowF_text {s : TB} (hf : s.Fit) {i : Nat} (hi : i < 8) : rowF (textB s.P i) = (s.P.drop (120 * i)).take 120 := by
  have hP := hf.1
  have hl : ((s.P.drop (120 * i)).take 120).length = 120 := by rw [List.length_take, List.length_drop]; omega
  refine List.ext_getElem (by rw [rowF_length, hl]) fun k h1 h2 => ?_
  have hk : k < 120 := by rw [rowF_length] at h1; exact h1
  have h3 := rowF_at (textB s.P i) hk
  rw [List.getD_eq_getElem?_getD, List.getElem?_eq_getElem h1, Option.getD_some] at h3
  rw [h3]
  have h4 := flat_at ((s.P.drop (120 * i)).take 120) k h2
  rw [List.getD_eq_getElem?_getD, List.getElem?_eq_getElem h2, Option.getD_some] at h4
  unfold valAt
  rw [textB_is s.P hi]
  have h5 : ((chunkB s.P i).drop (2 * k)).take 2 = digits (((s.P.drop (120 * i)).take 120)[k]) 2 := h4
  show nat8 (((chunkB s.P i).toArray.toList.drop (2 * k)).take 2) = _
  rw [show (chunkB s.P i).toArray.toList = chunkB s.P i from rfl, h5]
  refine nat8_two _ ?_
  have := hf.2.2 _ (List.mem_of_mem_drop (List.mem_of_mem_take (List.getElem_mem h2)))
  omega
theorem textC_text {s : TB} (hf : s.Fit) (hn : NoOne s.P) {i : Nat} (hi : i < 8) : textC (textB s.P i) = (0, 0) := by
  unfold textC
  rw [if_neg (fun h => h (textB_size hf.1 hi)), rowF_text hf hi]
  have hl : ((s.P.drop (120 * i)).take 120).length = 120 := by have := hf.1; rw [List.length_take, List.length_drop]; omega
  refine if_neg fun h => ?_
  refine badAt_none (l := (s.P.drop (120 * i)).take 120) (fun j hj => ?_) (by rw [hl]; exact h)
  rw [List.getD_eq_getElem?_getD, List.getElem?_eq_getElem hj, Option.getD_some]
  have hm := List.mem_of_mem_drop (List.mem_of_mem_take (List.getElem_mem hj))
  have h1 := hn _ hm
  have h2 := hf.2.2 _ hm
  generalize ((s.P.drop (120 * i)).take 120)[j] = x at h1 h2 ⊢
  unfold badB
  simp; omega
theorem loadC_text {s : TB} (hf : s.Fit) (hn : NoOne s.P) {i : Nat} (hi : i < 8) : (loadC (i : Nat) (textB s.P i)).1 = 0 := by
  unfold loadC
  rw [if_pos ⟨by omega, by omega⟩, textC_text hf hn hi]
/-- A new table, into which the first chunks were loaded. -/
def uF (P : List Nat) (i : Nat) : TB := ⟨P.take (120 * i) ++ nots (960 - 120 * i), offs 8⟩
theorem uF_zero (P : List Nat) : uF P 0 = newF := by unfold uF newF; simp
theorem uF_all {P : List Nat} (h : P.length = 960) : uF P 8 = ⟨P, offs 8⟩ := by
  unfold uF; rw [List.take_of_length_le (by omega)]; simp [nots]
theorem offs_set (i : Nat) : (offs 8).set i false = offs 8 := by
  refine List.ext_getElem? fun j => ?_
  rw [List.getElem?_set]
  split
  · rename_i e; subst e
    split
    · rename_i h; rw [List.getElem?_eq_getElem h, List.eq_of_mem_replicate (show (offs 8)[i] ∈ List.replicate 8 false from List.getElem_mem h)]
    · rename_i h; rw [List.getElem?_eq_none (by omega)]
  · rfl
theorem uF_load {s : TB} (hf : s.Fit) (hn : NoOne s.P) {i : Nat} (hi : i < 8) : loadF (uF s.P i) (i : Nat) (textB s.P i) = uF s.P (i + 1) := by
  have hP := hf.1
  unfold loadF
  rw [if_pos (loadC_text hf hn hi), Int.toNat_natCast, rowF_text hf hi]
  unfold offF layF uF
  have h1 : (s.P.take (120 * i)).length = 120 * i := by rw [List.length_take]; omega
  congr 1
  · show (s.P.take (120 * i) ++ nots (960 - 120 * i)).take (120 * i) ++ (s.P.drop (120 * i)).take 120 ++ (s.P.take (120 * i) ++ nots (960 - 120 * i)).drop (120 * i + 120) = _
    rw [List.take_append_of_le_length (by omega), List.take_of_length_le (l := s.P.take (120 * i)) (by omega)]
    rw [List.drop_append, List.drop_of_length_le (l := s.P.take (120 * i)) (by omega), List.nil_append, h1]
    rw [show 120 * (i + 1) = 120 * i + 120 by omega, List.take_add]
    congr 1
    unfold nots
    rw [List.drop_replicate]; congr 1; omega
  · exact offs_set i
/-- What is left where the first pages are dropped. -/
def oF (P : List Nat) (k : Nat) : List Nat := nots k ++ P.drop k
theorem oF_zero (P : List Nat) : oF P 0 = P := by unfold oF; simp [nots]
theorem oF_all {P : List Nat} (h : P.length = 960) : oF P 960 = nots 960 := by unfold oF; rw [List.drop_of_length_le (by omega), List.append_nil]
theorem oF_set {P : List Nat} (h : P.length = 960) {k : Nat} (hk : k < 960) : (oF P k).set k 0 = oF P (k + 1) := by
  unfold oF
  rw [List.set_append_right _ _ (by rw [nots_length]; exact Nat.le_refl _), nots_length, Nat.sub_self, List.drop_eq_getElem_cons (show k < P.length by omega), List.set_cons_zero]
  unfold nots
  rw [List.replicate_succ', List.append_assoc]; rfl
theorem dropF_P (s : TB) (k : Nat) (hk : k < 960) : (dropF s ((k : Int) + 1)).P = s.P.set k 0 := by
  unfold dropF
  rw [getF_nat s k hk]
  split
  · rename_i h; exact (set_same_at h).symm
  · rw [putF_P]; congr 1; omega
theorem dropF_put (s : TB) (k : Nat) (hk : k < 960) : dropF s ((k : Int) + 1) = putF s k 0 := by
  unfold dropF
  rw [getF_nat s k hk]
  split
  · rename_i h; exact (if_pos h).symm
  · congr 1; omega
theorem setF_put (s : TB) (k v : Nat) (hk : k < 960) (h1 : 2 ≤ v) (h2 : v ≤ 1023) : setF s ((k : Int) + 1) (v : Nat) = putF s k v := by
  unfold setF
  rw [if_pos ⟨⟨by omega, by omega⟩, ⟨by omega, by omega⟩⟩]
  congr 1; omega
theorem oF_at {P : List Nat} {k : Nat} : (oF P (k + 1)).getD k 0 = 0 := by
  unfold oF
  rw [List.getD_eq_getElem?_getD, List.getElem?_append_left (by rw [nots_length]; omega), ← List.getD_eq_getElem?_getD]
  exact nots_get _ _
theorem secs_nots (n : Nat) : secsF (nots n) = [] := by
  unfold secsF nots; rw [List.filter_replicate]; simp
theorem dirty_offs : dirtyF (offs 8) = [] := by decide +kernel
theorem mem_dirty {D : List Bool} {i : Nat} (hi : i < 8) : i ∈ dirtyF D ↔ D.getD i false = true := by
  unfold dirtyF; rw [List.mem_filter, List.mem_range]; exact ⟨fun h => h.2, fun h => ⟨hi, h⟩⟩
theorem texts_more {C : List ByteArray} {P : List Nat} {k : Nat} (hl : C.length = 8) (hk : k < 8) (h : ∀ j, j < k → C.getD j ⟨#[]⟩ = textB P j) : ∀ j, j < k + 1 → (C.set k (textB P k)).getD j ⟨#[]⟩ = textB P j := by
  intro j hj
  rw [List.getD_eq_getElem?_getD, List.getElem?_set]
  by_cases e : k = j
  · subst e; rw [if_pos rfl, if_pos (by omega)]; rfl
  · rw [if_neg e, ← List.getD_eq_getElem?_getD]; exact h j (by omega)
end Go.Proofs.YtliiooldlooagaaGreatDoor.T9
