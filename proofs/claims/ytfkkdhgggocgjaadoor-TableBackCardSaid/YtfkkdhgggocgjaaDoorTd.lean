/-
  A chunk's numbers, read out of a text (table.take), over this seat's translation; conditions: the Reader's block is there, at its text's beginning.
-/
import Derived.Test.YtfkkdhgggocgjaaDoorTc
import Derived.OrdersHeld
import Derived.Deep.RegionHeld3
namespace Go.Proofs.YtfkkdhgggocgjaaDoor
open Go.RowKit

/-- The numbers of a chunk's text. -/
def rowF (s : ByteArray) : List Nat := (List.range 120).map fun k => valAt s (2 * k) 2
def rowTo (s : ByteArray) (k : Nat) : List Nat := ((List.range k).map fun j => valAt s (2 * j) 2) ++ nots (120 - k)
theorem rowTo_length (s : ByteArray) {k : Nat} (h : k ≤ 120) : (rowTo s k).length = 120 := by
  unfold rowTo; rw [List.length_append, List.length_map, List.length_range, nots_length]; omega
theorem rowTo_all (s : ByteArray) : rowTo s 120 = rowF s := by
  unfold rowTo rowF; exact List.append_nil _
theorem rowTo_set (s : ByteArray) {k : Nat} (h : k < 120) : (rowTo s k).set k (valAt s (2 * k) 2) = rowTo s (k + 1) := by
  unfold rowTo
  rw [List.set_append_right _ _ (by simp), List.length_map, List.length_range, Nat.sub_self, List.range_succ, List.map_append]
  have : nots (120 - k) = 0 :: nots (120 - (k + 1)) := by
    unfold nots
    rw [show 120 - k = (120 - (k + 1)) + 1 by omega, List.replicate_succ]
  rw [this, List.set_cons_zero]
  simp
theorem rowF_length (s : ByteArray) : (rowF s).length = 120 := by simp [rowF]
theorem rowF_at (s : ByteArray) {k : Nat} (h : k < 120) : (rowF s).getD k 0 = valAt s (2 * k) 2 := by
  unfold rowF; rw [List.getD_eq_getElem?_getD, List.getElem?_map, List.getElem?_range h]; rfl
/-- A row of sectors: its block. -/
def Rw (W : World) (b : Nat) (l : List Nat) : Prop := Blk W b 72 (u16C l).toArray ∧ l.length = 120
theorem Rw.keep {W W' : World} {b : Nat} {l : List Nat} {r : Option Nat} (h : Rw W b l) (g : W.grownBy W' r) (hr : some b ≠ r) : Rw W' b l := ⟨h.1.keep g hr, h.2⟩
theorem Rw.keep0 {W W' : World} {b : Nat} {l : List Nat} (h : Rw W b l) (g : W.grownBy W' none) : Rw W' b l := ⟨h.1.keep0 g, h.2⟩
theorem Rw.cell {W : World} {b : Nat} {l : List Nat} (h : Rw W b l) {k : Nat} (hk : k < 120) : W.cell? ⟨b, k, none⟩ = some (.int .u16 (l.getD k 0 : Nat)) := h.1.cell k (by rw [List.getElem?_toArray]; exact u16C_at (by rw [h.2]; exact hk))
theorem Rw.blk {W : World} {b : Nat} {l : List Nat} (h : Rw W b l) : Blk W b 72 (u16C l).toArray := h.1
theorem Rw.free {W : World} {b : Nat} {l : List Nat} (h : Rw W b l) (k : Nat) : W.frozen? ⟨b, k, none⟩ = false := h.1.free k
theorem Rw.set {W : World} {b : Nat} {l : List Nat} (h : Rw W b l) (k v : Nat) : Rw (W.setCell ⟨b, k, none⟩ (.int .u16 (v : Nat))) b (l.set k v) := by
  refine ⟨?_, by rw [List.length_set]; exact h.2⟩
  have := h.1.set k (.int .u16 (v : Nat))
  rw [List.setIfInBounds_toArray] at this
  unfold u16C at this ⊢
  rw [List.map_set]
  exact this
theorem zero_rw : Tryd.zeroCells72 = (u16C (nots 120)).toArray := by kernel_rfl
theorem Rw.mk (w : World) : Rw (w.alloc (.cells Tryd.zeroCells72 72)) w.heap.size (nots 120) := ⟨by rw [zero_rw]; exact Blk.mk _ _ _, nots_length _⟩
theorem Rw.mkZ (w : World) {Z : Array Value} (h : (u16C (nots 120)).toArray = Z) : Rw (w.alloc (.cells Z 72)) w.heap.size (nots 120) := ⟨by rw [h]; exact Blk.mk _ _ _, nots_length _⟩
theorem rw_info {l : List Nat} (h : l.length = 120) : (Tryd.prog.info? 72).map (·.size) = some (u16C l).toArray.size := by
  rw [List.size_toArray, u16C_length, h]; kernel_rfl
theorem rw_size {l r : List Nat} (hl : l.length = 120) (hr : r.length = 120) : (u16C l).toArray.size = (u16C r).toArray.size := by
  rw [List.size_toArray, List.size_toArray, u16C_length, u16C_length, hl, hr]
theorem rw_one (l : List Nat) : (u16C l).toArray.all (·.oneCell') = true := by
  rw [Array.all_eq_true_iff_forall_mem]; intro v hv; exact u16C_one l v (by simpa using hv)
theorem Rw.row {W : World} {b : Nat} {l : List Nat} (h : Rw W b l) {r : List Nat} (hr : r.length = 120) : Rw (W.setRow b (u16C r).toArray) b r := ⟨setRow_heap W b _ _ _ _ h.1, hr⟩
set_option maxRecDepth 100000 in
theorem Rw.load {W : World} {b : Nat} {l : List Nat} (h : Rw W b l) : (loadVar 72 ⟨b, 0, none⟩).run Tryd.prog W = .ok (.agg (u16C l).toArray) W := by
  have hl := load_row h.1 0 (u16C l) (fun j v hv => by rw [Nat.zero_add, List.getElem?_toArray]; exact hv)
  rw [u16C_length, h.2] at hl
  simp [loadVar, Sem.run_bind, Tryd.isAgg72, Tryd.sizeOf72, hl]
set_option maxRecDepth 100000 in
theorem index_row (l : List Nat) (hl : l.length = 120) (k : Nat) (hk : k < 120) (w : World) : (Instr.index 72 (.agg (u16C l).toArray) (.int .i64 (k : Nat))).run Tryd.prog w = .ok (.int .u16 (l.getD k 0 : Nat)) w := by
  have h := u16C_at (l := l) (k := k) (by omega)
  simp [Instr.index, asIntOf, Sem.run_bind, run_underlying Tryd.underlying72, Tryd.sizeOf49, part, Tryd.isAgg49, h, hk]
theorem zero_row (w : World) : (zeroValue 72).run Tryd.prog w = .ok (.agg (u16C (nots 120)).toArray) w := by kernel_rfl
set_option maxRecDepth 100000 in
/-- A row and an error, returned. -/
theorem row_res {fn : Func} {p q : Tmp} (h : fn.results = #[.cell p 72, .tmp q]) (tmps : Array Value) (w : World) (B : Nat) (l : List Nat) (v : Value)
    (hp : tmps.getD p undef = .pointer (some ⟨B, 0, none⟩)) (hq : tmps.getD q undef = v) (hb : Rw w B l) : (results fn tmps).run Tryd.prog w = .ok (.tuple #[.agg (u16C l).toArray, v]) w := by
  have r0 := hb.load
  have hp' : tmps[p]?.getD undef = .pointer (some ⟨B, 0, none⟩) := by simpa using hp
  have hq' : tmps[q]?.getD undef = v := by simpa using hq
  generalize (u16C l).toArray = C at r0 ⊢
  simp [results, h, hp', hq', asAddr, r0, Result.andThen]
/-- A whole value stored over another one, as the next operation of a drawn region. -/
theorem stA (T : TypeId) (old cs : Array Value) (p v b : Nat) {ops : Array Oper} {a : Act} {w : World} {K : Act → World → Prop} {Q : Exit → Act → World → Prop} {dst : Option Tmp} {ty : TypeId} {pos : String} {after : Array Edge} (hb : Blk w b T old) (hi : (Tryd.prog.info? T).map (·.size) = some cs.size) (hz : old.size = cs.size) (ho : cs.all (·.oneCell') = true)
    (hx : a.eval (.tmp p) = .pointer (some ⟨b, 0, none⟩)) (hy : a.eval (.tmp v) = .agg cs) (h : K (a.put dst undef) (w.setRow b cs)) :
    if Region.wanted ⟨dst, .store T (.tmp p) (.tmp v), ty, pos, after, none⟩ (yielded ops a.tmps) = true then Oper.wp Tryd.prog ⟨dst, .store T (.tmp p) (.tmp v), ty, pos, after, none⟩ a w K Q else K (a.put dst undef) w := by
  rw [if_pos (by rfl)]
  exact wp_store_row T (.tmp p) (.tmp v) rfl b cs hx hy T _ hb hi hz ho h
theorem exec_load {P : Program} {o : Oper} {a : Act} {w : World} (ty : TypeId) (x : Operand) (ho : o.op = .load ty x) (ad : Addr) (hx : a.eval x = .pointer (some ad)) (v : Value) (hr : (loadVar ty ad).run P w = .ok v w) : (execOp a.eval o).run P w = .ok (.value v) w := by
  unfold execOp
  simp only [ho, hx, Instr.loadAt, Instr.sureAddr, Sem.run_bind, Sem.run_pure, Result.andThen_ok, hr]
/-- What take makes of a text. -/
def TakeGot (w : World) (br : Nat) (s : ByteArray) (e : Ending) (w' : World) : Prop :=
  w.grownBy w' (some br) ∧
  ((s.size < 240 ∧ ∃ a : Nat, e = .returned (.tuple #[.agg (u16C (nots 120)).toArray, .iface 67 (.pointer (some ⟨a, 0, none⟩))]) ∧ w.heap.size ≤ a ∧ Ft w' a 3 ((2 * (s.size / 2) : Nat) : Int) ∧ Rd w' br s (2 * (s.size / 2))) ∨
   (s.size = 240 ∧ e = .returned (.tuple #[.agg (u16C (rowF s)).toArray, .nilIface])) ∨
   (240 < s.size ∧ ∃ a : Nat, e = .returned (.tuple #[.agg (u16C (rowF s)).toArray, .iface 67 (.pointer (some ⟨a, 0, none⟩))]) ∧ w.heap.size ≤ a ∧ Ft w' a 4 (240 : Nat) ∧ Rd w' br s 240))
set_option linter.unusedSimpArgs false in
set_option maxRecDepth 100000 in
set_option maxHeartbeats 2000000 in
theorem take_any (br : Nat) (s : ByteArray) (w : World) (h : Rd w br s 0) (hs : s.size ≤ 9223372036854775807) :
    Calls Tryd.prog 51 #[.pointer (some ⟨br, 0, none⟩)] w (TakeGot w br s) := by
  have hz := zero_row
  obtain ⟨Z, hZ⟩ : ∃ Z, (u16C (nots 120)).toArray = Z := ⟨_, rfl⟩
  rw [hZ] at hz
  have HZ := Lib.hid hZ
  have hbr := h.lt
  have HR := Lib.hid h
  clear h hZ
  go_enter Tryd.func51, Tryd.ntmps51
  go_wp2
  have b2 := (Rw.mkZ w HZ.out).keep0 (gb_alloc _ (.cells Z 72) none)
  have b4 := Rw.mkZ (w.alloc (.cells Z 72)) HZ.out
  have g0 : w.grownBy ((w.alloc (.cells Z 72)).alloc (.cells Z 72)) none := gb_trans (gb_alloc _ _ _) (gb_alloc _ _ _)
  simp only [World.size_alloc] at b4
  have r0 := HR.out.keep0 g0
  have hsz : ((w.alloc (.cells Z 72)).alloc (.cells Z 72)).heap.size = w.heap.size + 2 := by simp
  generalize (w.alloc (.cells Z 72)).alloc (.cells Z 72) = W0 at b2 b4 g0 r0 hsz ⊢
  have b4' : Rw W0 (w.heap.size + 1) (rowTo s 0) := by
    have : rowTo s 0 = nots 120 := rfl
    rw [this]; exact b4
  go_loopw [8] (fun v wr => ∃ k : Nat, k ≤ 120 ∧ v = .int .i64 k ∧ 2 * k ≤ s.size ∧ Rd wr br s (2 * k) ∧ Rw wr w.heap.size (nots 120) ∧ Rw wr (w.heap.size + 1) (rowTo s k) ∧ w.grownBy wr (some br) ∧ w.heap.size + 2 ≤ wr.heap.size) (fun v _ => 120 - (intOf v).toNat)
  case atStart => exact ⟨0, by omega, rfl, by omega, r0, b2, b4', gb_weak g0 _, by omega⟩
  case round =>
    obtain ⟨k, hk, rfl, hks, hR, hB2, hB4, hg, hsz2⟩ := hrel
    clear r0 b2 b4 b4' g0 hsz
    by_cases hlt : k < 120
    · by_cases hfit : 2 * k + 2 ≤ s.size
      · have HS := Lib.hid (rowTo_set s hlt)
        have hf4 := hB4.free k
        have HU := Lib.hid (u16_ok br s (2 * k) wr hR hfit hs)
        have HB := Lib.hid (And.intro hB2 (And.intro hB4 hg))
        have hcell := hB4.cell hlt
        have hvl := valAt_lt s (2 * k) 2
        generalize valAt s (2 * k) 2 = v at HS HU hvl
        clear hR hB2 hB4 hg
        go_wp2_with (go_at_call 57; (with_reducible refine HU.out.mono ?_); rintro e w3 ⟨rfl, hR3, g3⟩; have c3 := g3.cell hcell (ne_some (show w.heap.size + 1 ≠ br by omega)); have f3 := (HB.out.2.1.keep g3 (ne_some (by omega))).free k)
        have B4 := (HB.out.2.1.keep g3 (ne_some (by omega))).set k v
        rw [HS.out] at B4
        have HQ := Lib.hid (And.intro (hR3.keep (gb_set w3 (w.heap.size + 1) k none (.int .u16 (v : Nat))) (ne_some (by omega))) (And.intro ((HB.out.1.keep g3 (ne_some (by omega))).keep (gb_set w3 (w.heap.size + 1) k none (.int .u16 (v : Nat))) (ne_some (by omega))) (And.intro B4 (And.intro (gb_step (gb_trans HB.out.2.2 g3) (gb_set w3 (w.heap.size + 1) k none (.int .u16 (v : Nat))) (by omega)) (Nat.le_trans hsz2 (Nat.le_trans g3.size (gb_set w3 (w.heap.size + 1) k none (.int .u16 (v : Nat))).size))))))
        clear hR3 g3 c3 f3 B4
        go_roundw
        case rel => exact ⟨k + 1, by omega, by go_num, by omega, HQ.out.1, HQ.out.2.1, HQ.out.2.2.1, HQ.out.2.2.2.1, HQ.out.2.2.2.2⟩
        case measure => simp [intOf]; omega
      · have hp : 2 * k = 2 * (s.size / 2) := by omega
        have hsh : s.size < 240 := by omega
        have HU := Lib.hid (u16_short br s (2 * k) wr hR hks hs (by omega))
        have HB := Lib.hid (And.intro hB2 (And.intro hg (And.intro hR (And.intro hp hsh))))
        clear hR hB2 hB4 hg hp
        go_wp2_with (first
          | (go_at_call 57; (with_reducible refine HU.out.mono ?_); rintro e w3 ⟨rfl, hF3, g3⟩)
          | (refine wpList_store_row rfl 72 (.tmp 2) (.tmp 18) rfl w.heap.size Z rfl rfl 72 _ (HB.out.1.keep0 g3).1 (by rw [← HZ.out]; exact rw_info (nots_length _)) (by rw [← HZ.out]) (by rw [← HZ.out]; exact rw_one _) ?_))
        have hRw : Rw (w3.setRow w.heap.size Z) w.heap.size (nots 120) := by rw [← HZ.out]; exact (HB.out.1.keep0 g3).row (nots_length _)
        refine bodyPost_ret (row_res rfl _ _ w.heap.size (nots 120) _ rfl rfl hRw) rfl ⟨?_, Or.inl ⟨HB.out.2.2.2.2, wr.heap.size, rfl, by omega, ?_, ?_⟩⟩
        · exact gb_step (gb_trans HB.out.2.1 (gb_weak g3 _)) (gb_setRow _ _ _) (Nat.le_refl _)
        · have := hF3.keep (gb_setRow w3 w.heap.size Z) (ne_some (by omega))
          rw [HB.out.2.2.2.1] at this
          exact this
        · have := (HB.out.2.2.1.keep0 g3).keep (gb_setRow w3 w.heap.size Z) (ne_some (by omega))
          rw [HB.out.2.2.2.1] at this
          exact this
    · obtain rfl : k = 120 := by omega
      rw [rowTo_all] at hB4
      have hload : ∀ w', wr.grownBy w' (some w.heap.size) → (loadVar 72 ⟨w.heap.size + 1, 0, none⟩).run Tryd.prog w' = .ok (.agg (u16C (rowF s)).toArray) w' := fun w' g => (hB4.keep g (ne_some (by omega))).load
      have hci := rw_info (rowF_length s)
      have hcs := rw_size (nots_length 120) (rowF_length s)
      have hco := rw_one (rowF s)
      obtain ⟨C, hC⟩ : ∃ C, (u16C (rowF s)).toArray = C := ⟨_, rfl⟩
      rw [hC] at hload hci hcs hco
      have HC := Lib.hid (And.intro hci (And.intro hcs hco))
      have HL := Lib.hid hload
      have HCE := Lib.hid hC
      have HB := Lib.hid (And.intro hB2 (And.intro hg hR))
      clear hload hci hcs hco hC hB2 hB4 hg hR
      by_cases hend : 240 = s.size
      · go_wp2
        refine wp_region_noPanic ?_
        refine wp_region_held_drew (S := fun w' => wr.grownBy w' (some w.heap.size)) (by kernel_rfl) (gb_drew _ _) (fun hHeld => ?_)
        refine wpAnyH_take (i := 0) (v := .agg C) (List.getElem?_toArray.trans rfl) (by kernel_rfl) (by kernel_rfl) (by kernel_rfl) (fun _ _ _ h => h) (Or.inl ⟨by rfl, ?_⟩) hHeld ?_
        · intro w' hSw; exact exec_load 72 (.tmp 4) rfl ⟨w.heap.size + 1, 0, none⟩ rfl _ (HL.out w' hSw)
        try simp only [Act.put, List.setIfInBounds_toArray, List.set_cons_zero, List.set_cons_succ]
        refine wpAnyH_take (i := 1) (v := ?_) (List.getElem?_toArray.trans rfl) (by kernel_rfl) (by kernel_rfl) (by kernel_rfl) (fun _ _ _ h => h) (Or.inl ⟨by rfl, ?_⟩) hHeld ?_
        rotate_left
        · intro w' hSw; go_simp; try with_reducible rfl
        try simp only [Act.put, List.setIfInBounds_toArray, List.set_cons_zero, List.set_cons_succ]
        refine wpAnyH_ready (rs := [2]) (by kernel_rfl) (by simp) ?_
        refine AllReadyH.cons (List.getElem?_toArray.trans rfl) (fun K hK => ?_) AllReadyH.nil
        go_simp
        go_at_call 58
        (with_reducible refine (end_all br s 240 _ (HB.out.2.2.keep0 (gb_drew _ _)) hend hs).mono ?_)
        rintro e w3 ⟨rfl, g3⟩
        refine hK.out _ _ (gb_trans hHeld (gb_weak g3 _)) (fun hHeld => ?_)
        clear hK K
        try simp only [Act.put, List.setIfInBounds_toArray, List.set_cons_zero, List.set_cons_succ]
        refine wpAnyH_ready (rs := [3]) (by kernel_rfl) (by simp) ?_
        refine AllReadyH.cons (List.getElem?_toArray.trans rfl) (fun K hK => ?_) AllReadyH.nil
        have hB2' := HB.out.1.keep0 (gb_trans (gb_drew wr none) g3)
        with_reducible refine stA 72 (u16C (nots 120)).toArray C 2 24 w.heap.size hB2'.blk HC.out.1 HC.out.2.1 HC.out.2.2 ?hx ?hy ?_
        case hx => rfl
        case hy => rfl
        refine hK.out _ _ (gb_trans hHeld (gb_setRow _ _ _)) (fun hHeld => ?_)
        clear hK K
        try simp only [Act.put, List.setIfInBounds_toArray, List.set_cons_zero, List.set_cons_succ]
        refine wpAnyH_take (i := 4) (v := ?_) (List.getElem?_toArray.trans rfl) (by kernel_rfl) (by kernel_rfl) (by kernel_rfl) (fun _ _ _ h => h) (Or.inl ⟨by rfl, ?_⟩) hHeld ?_
        rotate_left
        · intro w' hSw; go_simp; try with_reducible rfl
        try simp only [Act.put, List.setIfInBounds_toArray, List.set_cons_zero, List.set_cons_succ]
        refine wpAnyH_done (by kernel_rfl) ?_ _
        refine NoPanic.normal ?_
        go_wp2
        have hRw : Rw (w3.setRow w.heap.size C) w.heap.size (rowF s) := by rw [← HCE.out]; exact hB2'.row (rowF_length s)
        refine bodyPost_ret (row_res rfl _ _ w.heap.size (rowF s) _ rfl rfl hRw) rfl ⟨?_, Or.inr (Or.inl ⟨hend.symm, rfl⟩)⟩
        exact gb_step (gb_trans HB.out.2.1 (gb_weak (gb_trans (gb_drew wr none) g3) _)) (gb_setRow _ _ _) (Nat.le_refl _)
      · go_wp2
        refine wp_region_noPanic ?_
        refine wp_region_held_drew (S := fun w' => wr.grownBy w' (some w.heap.size)) (by kernel_rfl) (gb_drew _ _) (fun hHeld => ?_)
        refine wpAnyH_take (i := 0) (v := .agg C) (List.getElem?_toArray.trans rfl) (by kernel_rfl) (by kernel_rfl) (by kernel_rfl) (fun _ _ _ h => h) (Or.inl ⟨by rfl, ?_⟩) hHeld ?_
        · intro w' hSw; exact exec_load 72 (.tmp 4) rfl ⟨w.heap.size + 1, 0, none⟩ rfl _ (HL.out w' hSw)
        try simp only [Act.put, List.setIfInBounds_toArray, List.set_cons_zero, List.set_cons_succ]
        refine wpAnyH_take (i := 1) (v := ?_) (List.getElem?_toArray.trans rfl) (by kernel_rfl) (by kernel_rfl) (by kernel_rfl) (fun _ _ _ h => h) (Or.inl ⟨by rfl, ?_⟩) hHeld ?_
        rotate_left
        · intro w' hSw; go_simp; try with_reducible rfl
        try simp only [Act.put, List.setIfInBounds_toArray, List.set_cons_zero, List.set_cons_succ]
        refine wpAnyH_ready (rs := [2]) (by kernel_rfl) (by simp) ?_
        refine AllReadyH.cons (List.getElem?_toArray.trans rfl) (fun K hK => ?_) AllReadyH.nil
        go_simp
        go_at_call 58
        (with_reducible refine (end_left br s 240 _ (HB.out.2.2.keep0 (gb_drew _ _)) (by omega) hs).mono ?_)
        rintro e w3 ⟨rfl, hF3, g3⟩
        refine hK.out _ _ (gb_trans hHeld (gb_weak g3 _)) (fun hHeld => ?_)
        clear hK K
        try simp only [Act.put, List.setIfInBounds_toArray, List.set_cons_zero, List.set_cons_succ]
        refine wpAnyH_ready (rs := [3]) (by kernel_rfl) (by simp) ?_
        refine AllReadyH.cons (List.getElem?_toArray.trans rfl) (fun K hK => ?_) AllReadyH.nil
        have hB2' := HB.out.1.keep0 (gb_trans (gb_drew wr none) g3)
        with_reducible refine stA 72 (u16C (nots 120)).toArray C 2 24 w.heap.size hB2'.blk HC.out.1 HC.out.2.1 HC.out.2.2 ?hx ?hy ?_
        case hx => rfl
        case hy => rfl
        refine hK.out _ _ (gb_trans hHeld (gb_setRow _ _ _)) (fun hHeld => ?_)
        clear hK K
        try simp only [Act.put, List.setIfInBounds_toArray, List.set_cons_zero, List.set_cons_succ]
        refine wpAnyH_take (i := 4) (v := ?_) (List.getElem?_toArray.trans rfl) (by kernel_rfl) (by kernel_rfl) (by kernel_rfl) (fun _ _ _ h => h) (Or.inl ⟨by rfl, ?_⟩) hHeld ?_
        rotate_left
        · intro w' hSw; go_simp; try with_reducible rfl
        try simp only [Act.put, List.setIfInBounds_toArray, List.set_cons_zero, List.set_cons_succ]
        refine wpAnyH_done (by kernel_rfl) ?_ _
        refine NoPanic.normal ?_
        go_wp2
        have hRw : Rw (w3.setRow w.heap.size C) w.heap.size (rowF s) := by rw [← HCE.out]; exact hB2'.row (rowF_length s)
        refine bodyPost_ret (row_res rfl _ _ w.heap.size (rowF s) _ rfl rfl hRw) rfl ⟨?_, Or.inr (Or.inr ⟨by omega, wr.heap.size, rfl, by omega, hF3.keep (gb_setRow w3 w.heap.size C) (ne_some (show wr.heap.size ≠ w.heap.size by omega)), (HB.out.2.2.keep0 (gb_trans (gb_drew wr none) g3)).keep (gb_setRow w3 w.heap.size C) (ne_some (by omega))⟩)⟩
        exact gb_step (gb_trans HB.out.2.1 (gb_weak (gb_trans (gb_drew wr none) g3) _)) (gb_setRow _ _ _) (Nat.le_refl _)
end Go.Proofs.YtfkkdhgggocgjaaDoor

