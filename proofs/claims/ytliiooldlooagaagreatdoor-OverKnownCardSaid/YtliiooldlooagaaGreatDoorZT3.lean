/-
  Texts of one layer, one behind the other, each with its own sentence; conditions: those that each law states.
-/
import Derived.Deep.WholeRow
import Derived.Test.YtliiooldlooagaaGreatDoorZT1
set_option linter.unusedSimpArgs false
set_option linter.unusedVariables false

/-
  The document's own table (foyerref09): what Set, Drop, Clean, Lowest, Sectors, Dirty and Copy answer and leave, and the program's Copy, over this seat's translation; conditions: the table's block is there.
-/
namespace Go.Proofs.YtliiooldlooagaaGreatDoor.T9
open Go.RowKit

/-- The sectors of the first pages. -/
def secsTo (P : List Nat) (k : Nat) : List Nat := secsF (P.take k)
theorem secsTo_no {P : List Nat} {k : Nat} (hk : k < P.length) (h : P.getD k 0 = 0) : secsTo P (k + 1) = secsTo P k := by
  unfold secsTo secsF
  rw [List.take_add_one, List.getElem?_eq_getElem hk, List.filter_append]
  rw [List.getD_eq_getElem?_getD, List.getElem?_eq_getElem hk] at h
  have h2 : P[k] = 0 := h
  simp [h2]
theorem secsTo_yes {P : List Nat} {k : Nat} (hk : k < P.length) (h : P.getD k 0 ≠ 0) : secsTo P (k + 1) = secsTo P k ++ [P.getD k 0] := by
  unfold secsTo secsF
  rw [List.take_add_one, List.getElem?_eq_getElem hk, List.filter_append]
  rw [List.getD_eq_getElem?_getD, List.getElem?_eq_getElem hk] at h ⊢
  have h2 : P[k] ≠ 0 := h
  simp [h2]
theorem secsTo_length (P : List Nat) (k : Nat) : (secsTo P k).length ≤ k := by
  unfold secsTo secsF
  exact Nat.le_trans (List.length_filter_le _ _) (by rw [List.length_take]; omega)
set_option maxRecDepth 100000 in
/-- A whole table, out of memory. -/
theorem load_tab {w : World} {p : Nat} {s : TB} (h : PT w p s) : (loadVar 125 ⟨p, 0, none⟩).run Tryz.prog w = .ok (.agg (tabC s).toArray) w := by
  have hl := load_row h.1 0 (tabC s) (fun j v hv => by rw [Nat.zero_add, List.getElem?_toArray]; exact hv)
  rw [tabC_length h.2] at hl
  simp [loadVar, Sem.run_bind, Tryz.isAgg125, Tryz.sizeOf125, hl]
theorem copy_nil (w : World) : Calls Tryz.prog 68 #[.pointer none] w fun e w' => e = .returned (.pointer none) ∧ w = w' := by
  go_enter Tryz.func68, Tryz.ntmps68
  go_wp2
  go_ret
  exact ⟨rfl, rfl⟩
theorem u16C_one (l : List Nat) : ∀ v ∈ u16C l, v.oneCell' = true := by
  intro v hv; unfold u16C at hv; obtain ⟨b, _, rfl⟩ := List.mem_map.1 hv; rfl
theorem intsC_one (l : List Nat) : ∀ v ∈ intsC l, v.oneCell' = true := by
  intro v hv; unfold intsC at hv; obtain ⟨b, _, rfl⟩ := List.mem_map.1 hv; rfl
theorem bools_one (l : List Bool) : ∀ v ∈ bools l, v.oneCell' = true := by
  intro v hv; unfold bools at hv; obtain ⟨b, _, rfl⟩ := List.mem_map.1 hv; rfl
theorem tabC_one (s : TB) : (tabC s).toArray.all (·.oneCell') = true := by
  rw [Array.all_eq_true_iff_forall_mem]
  intro v hv
  simp only [List.mem_toArray, tabC, List.mem_append] at hv
  rcases hv with h | h
  · exact u16C_one _ v h
  · exact bools_one _ v h
theorem refC_one (s : TB) : (refC s).toArray.all (·.oneCell') = true := by
  rw [Array.all_eq_true_iff_forall_mem]
  intro v hv
  simp only [List.mem_toArray, refC, List.mem_cons, List.mem_append] at hv
  rcases hv with h | h | h
  · rw [h]; rfl
  · exact intsC_one _ v h
  · exact bools_one _ v h
theorem tab_info {s : TB} (h : s.Fit) : (Tryz.prog.info? 125).map (·.size) = some (tabC s).toArray.size := by
  rw [List.size_toArray, tabC_length h]; kernel_rfl
theorem tab_z968 : Tryz.zeroCells125.size = 968 := by kernel_rfl
theorem tab_zeros {s : TB} (h : s.Fit) : Tryz.zeroCells125.size = (tabC s).toArray.size := by
  have : (tabC s).toArray.size = 968 := by rw [List.size_toArray, tabC_length h]
  rw [this]; exact tab_z968
set_option maxRecDepth 100000 in
theorem copy_any (p : Nat) (s : TB) (w : World) (h : PT w p s) : Calls Tryz.prog 68 #[.pointer (some ⟨p, 0, none⟩)] w fun e w' => e = .returned (.pointer (some ⟨w.heap.size, 0, none⟩)) ∧ PT w' w.heap.size s ∧ w.grownBy w' none := by
  have hl := load_tab h
  have hi := tab_info h.fit
  have hz := tab_zeros h.fit
  have h1 := tabC_one s
  obtain ⟨C, hC⟩ : ∃ C, (tabC s).toArray = C := ⟨_, rfl⟩
  rw [hC] at hl hi hz h1
  have HC := Lib.hid hC
  have HF := Lib.hid h.fit
  have HI := Lib.hid (And.intro hi (And.intro hz h1))
  clear h hC hi hz h1
  go_enter Tryz.func68, Tryz.ntmps68
  go_wp2_with (first
    | (refine wpList_load_at rfl 125 (.tmp 7) rfl ⟨p, 0, none⟩ rfl _ hl ?_)
    | (refine wpList_store_row rfl 125 (.tmp 3) (.tmp 8) rfl w.heap.size C rfl rfl 125 _ (Blk.mk w 125 Tryz.zeroCells125) HI.out.1 HI.out.2.1 HI.out.2.2 ?_; rw [World.setRow_alloc_new]))
  go_ret
  exact ⟨rfl, ⟨by rw [HC.out]; exact Blk.mk _ _ _, HF.out⟩, gb_alloc _ _ _⟩
/-- What a Clean leaves of the document's table. -/
theorem refC_off {s : TB} (h : s.Fit) : ((refC s).toArray.toList.take (961 + 0) ++ bools (offs 8) ++ (refC s).toArray.toList.drop (961 + 0 + (bools (offs 8)).length)).toArray = (refC (cleanF s)).toArray := by
  congr 1
  show (refC s).take 961 ++ bools (offs 8) ++ (refC s).drop (961 + (bools (offs 8)).length) = _
  have h1 : (intsC s.P).length = 960 := by rw [intsC_length]; exact h.1
  rw [List.drop_eq_nil_of_le (by rw [refC_length h, bools_length, offs_length]; omega), List.append_nil]
  unfold refC cleanF
  rw [show 961 = 960 + 1 from rfl, List.take_succ_cons, List.take_append_of_le_length (by omega), List.take_of_length_le (by omega)]
  rfl
theorem wp_store_at {P : Program} {o : Oper} {a : Act} {w w' : World} {K : Act → World → Prop} {Q : Exit → Act → World → Prop} (ty : TypeId) (x y : Operand) (ho : o.op = .store ty x y)
    (ad : Addr) (hx : a.eval x = .pointer (some ad)) (v : Value) (hy : a.eval y = v) (hr : (storeVar ty ad v).run P w = .ok () w') (h : K (a.put o.dst undef) w') : o.wp P a w K Q := by
  unfold Oper.wp execOp
  simp only [ho, hx, hy, Instr.storeAt, Instr.sureAddr, Sem.run_bind, Sem.run_pure, Result.andThen_ok, hr]
  exact h
theorem wpList_store_at {P : Program} {ops : Array Oper} {rest : List Oper} {o : Oper} {a : Act} {w w' : World} {Q : Exit → Act → World → Prop} (hgd : o.guard = none) (ty : TypeId) (x y : Operand) (ho : o.op = .store ty x y)
    (ad : Addr) (hx : a.eval x = .pointer (some ad)) (v : Value) (hy : a.eval y = v) (hr : (storeVar ty ad v).run P w = .ok () w') (h : wpList P ops Q rest (a.put o.dst undef) w') : wpList P ops Q (o :: rest) a w :=
  wpList_plain hgd fun _ hK => wp_store_at ty x y ho ad hx v hy hr (hK _ _ h)
end Go.Proofs.YtliiooldlooagaaGreatDoor.T9

/-
  A chunk's text: the array in which the program lays it, and what the program's Chunk answers, over this seat's translation; conditions: the table's block is there, or there is no table.
-/
namespace Go.Proofs.YtliiooldlooagaaGreatDoor.T9
open Go.RowKit

/-- Noughts. -/
def zs (n : Nat) : List UInt8 := List.replicate n 0
theorem zs_length (n : Nat) : (zs n).length = n := List.length_replicate ..
theorem zs_drop (n k : Nat) : (zs n).drop k = zs (n - k) := List.drop_replicate ..
/-- The text of a chunk's first pages; the whole of it. -/
def chunkTo (P : List Nat) (i k : Nat) : List UInt8 := ((P.drop (120 * i)).take k).flatMap fun n => digits n 2
def chunkB (P : List Nat) (i : Nat) : List UInt8 := chunkTo P i 120
theorem flat_length : ∀ l : List Nat, (l.flatMap fun n => digits n 2).length = 2 * l.length
  | [] => rfl
  | n :: l => by
    rw [List.flatMap_cons, List.length_append, flat_length l, digits_length, List.length_cons]; omega
theorem chunkTo_length {P : List Nat} {i k : Nat} (hP : P.length = 960) (hi : i < 8) (hk : k ≤ 120) : (chunkTo P i k).length = 2 * k := by
  unfold chunkTo; rw [flat_length, List.length_take, List.length_drop]; omega
theorem chunkTo_succ {P : List Nat} {i k : Nat} (hP : P.length = 960) (hi : i < 8) (hk : k < 120) : chunkTo P i (k + 1) = chunkTo P i k ++ digits (P.getD (120 * i + k) 0) 2 := by
  unfold chunkTo
  have h1 : (P.drop (120 * i))[k]? = some (P.getD (120 * i + k) 0) := by
    rw [List.getElem?_drop, List.getD_eq_getElem?_getD, List.getElem?_eq_getElem (by omega)]; rfl
  rw [List.take_add_one, h1, List.flatMap_append]
  simp
/-- The array that is laid: its block. -/
def Ar (W : World) (b : Nat) (l : List UInt8) : Prop := Blk W b 188 (bcells l).toArray ∧ l.length = 240
theorem Ar.keep0 {W W' : World} {b : Nat} {l : List UInt8} (h : Ar W b l) (g : W.grownBy W' none) : Ar W' b l := ⟨Blk.keep0 h.1 g, h.2⟩
theorem bcells_at {l : List UInt8} {j : Nat} (h : j < l.length) : (bcells l)[j]? = some (.int .u8 ((l.getD j 0).toNat : Nat)) := by simp [bcells, List.getD_eq_getElem?_getD, h]
theorem Ar.bs {W : World} {b : Nat} {l : List UInt8} (h : Ar W b l) : Bs W (.slice (some ⟨b, 0, none⟩) 240 240) l := by
  refine ⟨some ⟨b, 0, none⟩, 240, by rw [h.2], by rw [h.2]; exact Nat.le_refl _, (fun e => by cases e), ?_⟩
  intro a e j u hj
  cases e
  rw [add_at, Nat.zero_add]
  exact h.1.cell j (by rw [List.getElem?_toArray]; exact hj)
theorem zero_ar : Tryz.zeroCells188 = (bcells (zs 240)).toArray := by kernel_rfl
theorem Ar.mk (w : World) : Ar (w.alloc (.cells Tryz.zeroCells188 188)) w.heap.size (zs 240) := ⟨by rw [zero_ar]; exact Blk.mk _ _ _, zs_length _⟩
theorem bcells_one (l : List UInt8) : ∀ v ∈ bcells l, v.oneCell' = true := by
  intro v hv
  simp only [bcells, List.mem_map] at hv
  obtain ⟨b, _, rfl⟩ := hv
  rfl
/-- Bytes laid at a place. -/
def putAt (l : List UInt8) (i : Nat) (r : List UInt8) : List UInt8 := l.take i ++ r ++ l.drop (i + r.length)
theorem putAt_length (l : List UInt8) (i : Nat) (r : List UInt8) (h : i + r.length ≤ l.length) : (putAt l i r).length = l.length := by simp [putAt]; omega
theorem bcells_put (l : List UInt8) (i : Nat) (r : List UInt8) : ((bcells l).toArray.toList.take i ++ bcells r ++ (bcells l).toArray.toList.drop (i + (bcells r).length)).toArray = (bcells (putAt l i r)).toArray := by
  rw [bcells_length]
  simp [putAt, bcells, List.map_take, List.map_drop]
theorem Ar.row {W : World} {b : Nat} {l : List UInt8} (h : Ar W b l) (i : Nat) (r : List UInt8) (hi : i + r.length ≤ 240) : Ar (W.setRow b (bcells (putAt l i r)).toArray) b (putAt l i r) :=
  ⟨setRow_heap W b _ _ _ _ h.1, by rw [putAt_length _ _ _ (by rw [h.2]; exact hi)]; exact h.2⟩
theorem copy_bs {W : World} {b : Nat} {l r : List UInt8} {v : Value} (h : Ar W b l) (hr : Bs W v r) (i dLen dCap : Nat) (hi : i + r.length ≤ 240) (hd : r.length ≤ dLen) (h0 : r ≠ []) (ty : TypeId) :
    (Builtin.copy_ #[59, 59] ty #[.slice (some ⟨b, i, none⟩) dLen dCap, v]).run Tryz.prog W = .ok (goInt r.length) (W.setRow b (bcells (putAt l i r)).toArray) := by
  obtain ⟨ao, cap, rfl, h2, h3, h4⟩ := hr
  cases ao with
  | none => exact absurd (List.eq_nil_of_length_eq_zero (h3 rfl).1) h0
  | some a =>
    have := run_copy_row (P := Tryz.prog) W 59 59 ty 5 b i dLen dCap a r.length cap (bcells l).toArray 188 (bcells r) Tryz.underlying59 (by kernel_rfl) h.1 (by rw [bcells_length]; exact (Nat.min_eq_left hd).symm) (h4 a rfl) (by rw [bcells_length, List.size_toArray, bcells_length, h.2]; exact hi) (bcells_one r)
    rw [bcells_put, bcells_length] at this
    exact this
theorem lay_step {P : List Nat} {i k : Nat} (hP : P.length = 960) (hi : i < 8) (hk : k < 120) : putAt (chunkTo P i k ++ zs (240 - 2 * k)) (2 * k) (digits (P.getD (120 * i + k) 0) 2) = chunkTo P i (k + 1) ++ zs (240 - 2 * (k + 1)) := by
  have hl := chunkTo_length hP hi (show k ≤ 120 by omega)
  unfold putAt
  rw [List.take_append_of_le_length (by omega), List.take_of_length_le (by omega), digits_length, chunkTo_succ hP hi hk, ← hl, List.drop_append, List.drop_eq_nil_of_le (by omega), List.nil_append, zs_drop, hl]
  congr 2
  omega
theorem slice_tail (b m : Nat) (hm : m < 240) (W : World) : (Instr.sliceAt 188 (.pointer (some ⟨b, 0, none⟩)) (some (.int .i64 (m : Nat))) none none).run Tryz.prog W = .ok (.slice (some ⟨b, m, none⟩) (240 - m) (240 - m)) W := by
  have h1 : (m : Int) ≤ 240 := by omega
  have h2 : ¬ 240 = m := by omega
  simp [Instr.sliceAt, run_underlying Tryz.underlying188, Sem.run_bind, Tryz.sizeOf5]
  go_simp
theorem slice_three (p i : Nat) (hi : i < 8) (W : World) : (Instr.sliceAt 122 (.pointer (some ⟨p, 0, none⟩)) (some (.int .i64 ((i : Int) * 120))) (some (.int .i64 (((i : Int) + 1) * 120))) (some (.int .i64 (((i : Int) + 1) * 120)))).run Tryz.prog W = .ok (.slice (some ⟨p, 120 * i, none⟩) 120 120) W := by
  obtain ⟨a, ha⟩ : ∃ a : Nat, 120 * i = a := ⟨_, rfl⟩
  have e1 : (i : Int) * 120 = (a : Int) := by omega
  have e2 : ((i : Int) + 1) * 120 = ((a + 120 : Nat) : Int) := by omega
  rw [e1, e2, ha]
  have h1 : ((a + 120 : Nat) : Int) ≤ 960 := by omega
  have h2 : (a : Int) ≤ ((a + 120 : Nat) : Int) := by omega
  have h3 : ¬ a + 120 = a := by omega
  have h4 : a + 120 - a = 120 := by omega
  have h5 : ¬ a + 120 < a := by omega
  obtain ⟨b, hb⟩ : ∃ b : Nat, a + 120 = b := ⟨_, rfl⟩
  rw [hb] at h1 h2 h3 h4 h5 ⊢
  simp [Instr.sliceAt, run_underlying Tryz.underlying122, Sem.run_bind, Tryz.sizeOf23]
  go_simp
set_option maxRecDepth 100000 in
theorem chunk_any (p i a : Nat) (w : World) (hi : i < 8) (ha : 120 * i = a) : Calls Tryz.prog 114 #[.pointer (some ⟨p, 0, none⟩), .int .i64 (i : Nat)] w fun e w' => e = .returned (.slice (some ⟨p, a, none⟩) 120 120) ∧ w = w' := by
  have hsl := slice_three p i hi
  rw [ha] at hsl
  clear ha
  go_enter Tryz.func114, Tryz.ntmps114
  go_wp2
  go_ret
  exact ⟨rfl, rfl⟩
/-- What is told of a chunk. -/
def chunkF (P : List Nat) (i : Int) : List UInt8 := if 0 ≤ i ∧ i < 8 then chunkB P i.toNat else []
def ChunkGot (w : World) (P : List Nat) (i : Int) (e : Ending) (w' : World) : Prop := e = .returned (.string ⟨(chunkF P i).toArray⟩) ∧ w.grownBy w' none
theorem isChunk_is {b : Bool} {i : Int} (w : World) (h : decide (0 ≤ i ∧ i < 8) = b) : Calls Tryz.prog 113 #[.int .i64 i] w fun e w' => e = .returned (.bool b) ∧ w = w' := by
  subst h
  by_cases h1 : 0 ≤ i
  · by_cases h2 : i < 8
    · rw [decide_eq_true ⟨h1, h2⟩]
      go_enter Tryz.func113, Tryz.ntmps113
      go_wp2
      go_ret
      exact ⟨rfl, rfl⟩
    · rw [decide_eq_false (fun h => h2 h.2)]
      go_enter Tryz.func113, Tryz.ntmps113
      go_wp2
      go_ret
      exact ⟨rfl, rfl⟩
  · rw [decide_eq_false (fun h => h1 h.1)]
    go_enter Tryz.func113, Tryz.ntmps113
    go_wp2
    go_ret
    exact ⟨rfl, rfl⟩
theorem chunkT_nil (i : Int) (w : World) : Calls Tryz.prog 91 #[.pointer none, .int .i64 i] w fun e w' => e = .returned (.string ⟨#[]⟩) ∧ w = w' := by
  go_enter Tryz.func91, Tryz.ntmps91
  go_wp2
  go_ret
  exact ⟨rfl, rfl⟩
set_option maxRecDepth 100000 in
set_option maxHeartbeats 2000000 in
theorem chunkT_any (p : Nat) (s : TB) (i : Int) (w : World) (h : PT w p s) : Calls Tryz.prog 91 #[.pointer (some ⟨p, 0, none⟩), .int .i64 i] w (ChunkGot w s.P i) := by
  by_cases hi : 0 ≤ i ∧ i < 8
  · have hF : chunkF s.P i = chunkB s.P i.toNat := if_pos hi
    obtain ⟨c, rfl, hc⟩ : ∃ c : Nat, i = (c : Int) ∧ c < 8 := ⟨i.toNat, by omega, by omega⟩
    rw [Int.toNat_natCast] at hF
    have HFF := Lib.hid hF
    obtain ⟨a, ha⟩ : ∃ a : Nat, 120 * c = a := ⟨_, rfl⟩
    have HCA := Lib.hid ha
    have ha2 : a ≤ 840 := by omega
    clear ha
    have HI := Lib.hid hi
    have HP := Lib.hid h
    have hpl := h.lt
    have hsz := h.fit.1
    clear hi h hF
    go_enter Tryz.func91, Tryz.ntmps91
    go_wp2_with (first
      | (go_at_call 113; (with_reducible refine (isChunk_is _ (decide_eq_true HI.out)).mono ?_); rintro e w' ⟨rfl, rfl⟩)
      | (go_at_call 114; (with_reducible refine (chunk_any p c a _ hc HCA.out).mono ?_); rintro e w' ⟨rfl, rfl⟩))
    have a0 : Ar (w.alloc (.cells Tryz.zeroCells188 188)) w.heap.size (chunkTo s.P c 0 ++ zs (240 - 2 * 0)) := Ar.mk w
    have g0 := gb_alloc w (.cells Tryz.zeroCells188 188) none
    generalize w.alloc (.cells Tryz.zeroCells188 188) = W0 at a0 g0 ⊢
    go_loopw [19] (fun v wr => ∃ k : Nat, k ≤ 120 ∧ v = .int .i64 k ∧ Ar wr w.heap.size (chunkTo s.P c k ++ zs (240 - 2 * k)) ∧ w.grownBy wr none) (fun v _ => 120 - (intOf v).toNat)
    case atStart => exact ⟨0, by omega, rfl, a0, g0⟩
    case round =>
      obtain ⟨k, hk, rfl, hA, hg⟩ := hrel
      clear a0 g0
      by_cases hlt : k < 120
      · have hcell := (HP.out.keep0 hg).page (k := a + k) (by omega)
        have hvl := HP.out.fit.lt (a + k)
        have HS := lay_step hsz hc hlt
        rw [HCA.out] at HS
        generalize s.P.getD (a + k) 0 = v at hcell hvl HS
        obtain ⟨m, hm⟩ : ∃ m : Nat, 2 * k = m := ⟨_, rfl⟩
        have hm1 : (k : Int) * 2 = (m : Int) := by omega
        have hm2 : m < 240 := by omega
        have hm3 : IntKind.i64.wrap (m : Int) = (m : Int) := IntWalk.i64_in _ (by omega)
        have hsl := fun W => slice_tail w.heap.size m hm2 W
        rw [hm] at HS hA
        replace HS := Lib.hid HS
        have HA := Lib.hid hA
        have HG := Lib.hid hg
        have hm4 : m + 2 ≤ 240 := by omega
        clear hA hg hm
        go_wp2
        go_region_with (go_at_call 115
                        (with_reducible refine (p16_any _ [] v _ (Bs.nil _) (by omega) (by simp)).mono ?_)
                        rintro e w2 ⟨v2, rfl, o2, g2⟩
                        have cp := fun ty => copy_bs (HA.out.keep0 (gb_trans (gb_drew _ _) g2)) (Bs.of_owns o2) m (240 - m) (240 - m) (by simp [digits_length]; omega) (by simp [digits_length]; omega) (by simp [digits]) ty)
        have A2 : Ar (w2.setRow w.heap.size (bcells (putAt (chunkTo s.P c k ++ zs (240 - m)) m (digits v 2))).toArray) w.heap.size (putAt (chunkTo s.P c k ++ zs (240 - m)) m (digits v 2)) :=
          (HA.out.keep0 (gb_trans (gb_drew _ _) g2)).row m _ (by simp [digits_length]; omega)
        have G2 : w.grownBy (w2.setRow w.heap.size (bcells (putAt (chunkTo s.P c k ++ zs (240 - m)) m (digits v 2))).toArray) none := gb_step (gb_trans HG.out (gb_trans (gb_drew _ _) g2)) (gb_setRow _ _ _) (Nat.le_refl _)
        rw [HS.out] at A2 G2 ⊢
        clear cp o2 g2
        generalize w2.setRow w.heap.size (bcells (chunkTo s.P c (k + 1) ++ zs (240 - 2 * (k + 1)))).toArray = W2 at A2 G2 ⊢
        have HQ := Lib.hid (And.intro A2 G2)
        clear A2 G2
        go_wp2
        go_roundw
        case rel => exact ⟨k + 1, by omega, by go_num, HQ.out.1, HQ.out.2⟩
        case measure => simp [intOf]; omega
      · obtain rfl : k = 120 := by omega
        have hst := conv_bs _ _ _ hA.bs
        have e0 : chunkTo s.P c 120 ++ zs (240 - 2 * 120) = chunkB s.P c := by show chunkTo s.P c 120 ++ [] = _; rw [List.append_nil]; rfl
        rw [e0] at hst
        generalize chunkB s.P c = t at hst HFF
        have HG := Lib.hid hg
        clear hA hg e0
        go_wp2
        go_ret
        exact ⟨by rw [HFF.out]; rfl, HG.out⟩
  · have hF : chunkF s.P i = [] := if_neg hi
    have HFF := Lib.hid hF
    have HI := Lib.hid hi
    clear hi h hF
    go_enter Tryz.func91, Tryz.ntmps91
    go_wp2_with (go_at_call 113; (with_reducible refine (isChunk_is _ (decide_eq_false HI.out)).mono ?_); rintro e w' ⟨rfl, rfl⟩)
    go_ret
    exact ⟨by rw [HFF.out]; rfl, gb_refl _ _⟩
/-- A row of bytes of the call's own. -/
def RowB (w : World) (l : List UInt8) (v : Value) (W : World) : Prop := W.ownsRow w.heap.size 5 1 v l.length (bcells l) ∧ w.grownBy W none
theorem RowB.nil (w : World) : RowB w [] (.slice none 0 0) w := ⟨World.ownsRow_nil _ _ _ _, gb_refl _ _⟩
theorem RowB.shape {w : World} {l : List UInt8} {v : Value} {W : World} (h : RowB w l v W) : ∃ ao cap, v = .slice ao l.length cap := by
  obtain ⟨ao, cap, h1, _⟩ := Sl.of_owns h.1; exact ⟨ao, cap, h1⟩
theorem digits_two (n : Nat) (h : n < 1024) : bcells (digits n 2) = [.int .u8 ((n : Int) / 256), .int .u8 ((n : Int) % 256)] := by
  have e : digits n 2 = [UInt8.ofNat (n / 256 % 256), UInt8.ofNat (n % 256)] := rfl
  rw [e]
  have h1 : ((UInt8.ofNat (n / 256 % 256)).toNat : Int) = (n : Int) / 256 := by simp; omega
  have h2 : ((UInt8.ofNat (n % 256)).toNat : Int) = (n : Int) % 256 := by simp
  simp only [bcells, List.map_cons, List.map_nil, h1, h2]
theorem RowB.snoc {w : World} {l : List UInt8} {v v3 : Value} {W w3 : World} {n : Nat} {o : Obj} (h : RowB w l v W) (o3 : w3.ownsRow w.heap.size 5 1 v3 (l.length + 2) (bcells l ++ bcells (digits n 2))) (g3 : (W.alloc o).grownBy w3 v.ownBlock) : RowB w (l ++ digits n 2) v3 w3 :=
  ⟨owns_cast o3 (by simp [digits_length]) (bcells_append _ _).symm, gb_app h.2 h.1 (Nat.le_refl _) g3⟩
theorem cells2_new (w : World) (x y : Value) (t : TypeId) : ∀ j u, [x, y][j]? = some u → (w.alloc (.cells #[x, y] t)).cell? ((⟨w.heap.size, 0, none⟩ : Addr).add j) = some u := by
  intro j u hj
  rw [add_at, Nat.zero_add]
  exact (Blk.mk w t #[x, y]).cell j (by rw [List.getElem?_toArray]; exact hj)
theorem two_bytes (x y : Int) : ∀ u ∈ [Value.int .u8 x, .int .u8 y], u.oneCell' = true := by
  intro u hu; simp at hu; rcases hu with rfl | rfl <;> rfl
end Go.Proofs.YtliiooldlooagaaGreatDoor.T9
