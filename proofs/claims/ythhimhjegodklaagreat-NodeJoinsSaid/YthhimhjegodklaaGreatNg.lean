/-
  Appends of slices that read as lists, and what part and slices.Concat answer, of cells, keys, Kids, over this seat's translation; conditions: at most a million items.
-/
import Derived.Test.YthhimhjegodklaaGreatNf
import Derived.Deep.AppendSrc
import Derived.Laws.OwnMore
import Derived.Lib.AppendZeros
namespace Go.Proofs.YthhimhjegodklaaGreat.N11
set_option linter.unusedSimpArgs false
set_option linter.unusedVariables false
open Go.RowKit
theorem info_got {P : Program} {t : TypeId} {z : Value} {s b : Nat} (h : (P.info? t).map (fun i => (i.zero, i.size, i.bytes)) = some (some z, s, b)) : ∃ i, P.info? t = some i ∧ i.zero = some z ∧ i.size = s ∧ i.bytes = b := by
  cases e : P.info? t with
  | none => rw [e] at h; cases h
  | some i => rw [e] at h; simp at h; exact ⟨i, rfl, h.1, h.2.1, h.2.2⟩
/-- An append to a row of the call's own. -/
theorem row_app {P : Program} {k : Nat} (t e : TypeId) (i : TypeInfo) (z : Value) (bytes : Nat) (ht : P.underlying t = some (.slice e)) (hi : P.info? e = some i) (hz : i.zero = some z) (hsize : i.size = k) (hby : i.bytes = bytes) (hzs : z.cells.size = k) (hk : 0 < k) (hbb : bytes ≤ 48)
    (w : World) (base : Nat) (v x : Value) (n m : Nat) (xs news : List Value) (hown : w.ownsRow base e k v n xs) (hx : Sl k w x m news) (h1 : ∀ u ∈ news, u.oneCell' = true) (hnm : n + m ≤ 2000000) (hb : base ≤ w.heap.size) (ty : TypeId) :
    ∃ v' w', (Builtin.append_ #[t, t] ty #[v, x]).run P w = .ok v' w' ∧ w'.ownsRow base e k v' (n + m) (xs ++ news) ∧ w.grownBy w' v.ownBlock := by
  obtain ⟨ao, cap, rfl, hc, hl, hnil, hcell⟩ := hx
  cases ao with
  | none =>
    obtain ⟨rfl, rfl⟩ := hnil rfl
    have : news = [] := List.eq_nil_of_length_eq_zero (by simpa using hl)
    subst this
    exact ⟨v, w, run_append_owned_none w base t ty e i k ht hi v n xs hown, by simpa using hown, gb_refl _ _⟩
  | some a =>
    obtain ⟨v', w', h1, h2, h3, _⟩ := run_append_own (P := P) w base t ty e i z k bytes ht hi hz hsize hby hzs hk v n xs hown a m cap news hl (hcell a rfl) h1 (by unfold maxLen; omega) (by
      have : (n + m) * bytes ≤ 2000000 * 48 := Nat.mul_le_mul hnm hbb
      omega) hb
    exact ⟨v', w', h1, h2, h3⟩
/-- An append to a slice that has neither items nor room: what is answered is new, or nothing. -/
theorem cut_app {P : Program} {k : Nat} (t e : TypeId) (i : TypeInfo) (z : Value) (bytes : Nat) (ht : P.underlying t = some (.slice e)) (hi : P.info? e = some i) (hz : i.zero = some z) (hsize : i.size = k) (hby : i.bytes = bytes) (hzs : z.cells.size = k) (hbb : bytes ≤ 48)
    (w : World) (ao : Option Addr) (x : Value) (m : Nat) (news : List Value) (hx : Sl k w x m news) (h1 : ∀ u ∈ news, u.oneCell' = true) (hm : m ≤ 1000000) (ty : TypeId) :
    ∃ v' w', (Builtin.append_ #[t, t] ty #[.slice ao 0 0, x]).run P w = .ok v' w' ∧ Sl k w' v' m news ∧ w.grownBy w' none := by
  obtain ⟨bo, cap, rfl, hc, hl, hnil, hcell⟩ := hx
  by_cases h0 : m = 0
  · subst h0
    have : news = [] := List.eq_nil_of_length_eq_zero (by simpa using hl)
    subst this
    refine ⟨.slice ao 0 0, w, ?_, ⟨ao, 0, rfl, Nat.le_refl _, by simp, fun _ => ⟨rfl, rfl⟩, fun _ _ j u h => by simp at h⟩, gb_refl _ _⟩
    cases ao with
    | none => cases bo <;> simp [Builtin.append_, run_underlying ht, sizeOf, typeInfo, hi, Builtin.lenOf, Builtin.firstCells, loadCells, loadCellsFrom, storeCells]
    | some a => cases bo <;> simp [Builtin.append_, run_underlying ht, sizeOf, typeInfo, hi, Builtin.lenOf, Builtin.firstCells, loadCells, loadCellsFrom, storeCells]
  · cases bo with
    | none => exact absurd (hnil rfl).1 h0
    | some a =>
      have hs := Src.ofSlice (P := P) (w := w) (size := i.size) ht a m cap news (by rw [hsize]; exact hl) (hcell a rfl) h1
      have hle : m * i.bytes ≤ 1000000 * 48 := Nat.mul_le_mul hm (by rw [hby]; exact hbb)
      have hold : (Builtin.firstCells i.size 0 (.slice ao 0 0)).run P w.drew = .ok ([] : List Value).toArray w.drew := by
        cases ao <;> simp [Builtin.firstCells, loadCells, loadCellsFrom]
      have hr := run_append_grow_src (P := P) w t t ty e i z ht hi hz ao 0 0 [] hold _ m news hs (by omega) (by omega) (growslice_fits (by omega) (by simp only [Nat.zero_add]; omega))
      simp only [Nat.zero_add, List.nil_append] at hr
      refine ⟨_, _, hr, ?_, gb_trans (gb_drew w none) (gb_alloc w.drew _ none)⟩
      refine ⟨some ⟨w.heap.size, 0, none⟩, _, rfl, grownCap_ge w m 0 e, hl, (fun e => by cases e), ?_⟩
      intro b hb j u hj
      cases hb
      have hb2 := Blk.mk w.drew e (news.toArray ++ Builtin.zeroCells z.cells (grownCap w m 0 e - m))
      have hjl := (List.getElem?_eq_some_iff.1 hj).1
      have := hb2.cell (0 + j) (v := u) (by rw [Nat.zero_add, Array.getElem?_append_left (by simpa using hjl)]; simpa using hj)
      rw [← this]
      unfold Addr.add
      by_cases hj0 : j = 0 <;> simp [hj0]
theorem one_strsC (l : List ByteArray) : ∀ u ∈ strsC l, u.oneCell' = true := by
  intro u hu; obtain ⟨_, _, rfl⟩ := List.mem_map.1 hu; rfl
theorem one_inC (l : List Int) : ∀ u ∈ inC l, u.oneCell' = true := by
  intro u hu; obtain ⟨_, _, rfl⟩ := List.mem_map.1 hu; rfl
theorem one_ceC (l : List Ce) : ∀ u ∈ ceC l, u.oneCell' = true := by
  intro u hu
  obtain ⟨c, _, hc⟩ := List.mem_flatMap.1 hu
  simp [Ce.row] at hc
  rcases hc with rfl | rfl | rfl | rfl <;> rfl
theorem strsC_append (l r : List ByteArray) : strsC (l ++ r) = strsC l ++ strsC r := by simp [strsC]
theorem inC_append (l r : List Int) : inC (l ++ r) = inC l ++ inC r := by simp [inC]
theorem Tryz.infoNC : (Tryz.prog.info? 55).map (fun i => (i.zero, i.size, i.bytes)) = some (some (.agg #[.string ⟨#[]⟩, .string ⟨#[]⟩, .int .i64 0, .int .i64 0]), 4, 48) := by kernel_rfl
/-- A row of the call's own that has these items. -/
def RowC (w : World) (base : Nat) (v : Value) (l : List Ce) : Prop := w.ownsRow base 55 4 v l.length (ceC l)
theorem RowC.sl {w : World} {base : Nat} {v : Value} {l : List Ce} (h : RowC w base v l) : Ces w v l := Sl.of_owns h
theorem RowC.nil (w : World) (base : Nat) : RowC w base (.slice none 0 0) [] := World.ownsRow_nil w base _ _
theorem RowC.keep0 {w w' : World} {base : Nat} {v : Value} {l : List Ce} (h : RowC w base v l) (g : w.grownBy w' none) : RowC w' base v l := by
  refine h.kept g ?_
  cases hb : v.ownBlock with
  | none => exact .inl rfl
  | some j => exact .inr (by simp)
theorem row_app_C {w : World} {base : Nat} {v x : Value} {l r : List Ce} (h : RowC w base v l) (hx : Ces w x r) (hl : l.length ≤ 1000000) (hr : r.length ≤ 1000000) (hb : base ≤ w.heap.size) (ty : TypeId) :
    ∃ v' w', (Builtin.append_ #[22, 22] ty #[v, x]).run Tryz.prog w = .ok v' w' ∧ RowC w' base v' (l ++ r) ∧ w.grownBy w' v.ownBlock := by
  obtain ⟨i0, hi, hz0, hz1, hz2⟩ := info_got Tryz.infoNC
  obtain ⟨v', w', h1, h2, h3⟩ := row_app (P := Tryz.prog) (k := 4) 22 55 i0 _ 48 Tryz.underlying22 hi hz0 hz1 hz2 rfl (by omega) (by omega) w base v x l.length r.length _ _ h hx (one_ceC r) (by omega) hb ty
  exact ⟨v', w', h1, by unfold RowC; rw [List.length_append, ceC_append]; exact h2, h3⟩
theorem cut_app_C {w : World} {x : Value} {r : List Ce} (ao : Option Addr) (hx : Ces w x r) (hr : r.length ≤ 1000000) (ty : TypeId) :
    ∃ v' w', (Builtin.append_ #[22, 22] ty #[.slice ao 0 0, x]).run Tryz.prog w = .ok v' w' ∧ Ces w' v' r ∧ w.grownBy w' none := by
  obtain ⟨i0, hi, hz0, hz1, hz2⟩ := info_got Tryz.infoNC
  exact cut_app (P := Tryz.prog) (k := 4) 22 55 i0 _ 48 Tryz.underlying22 hi hz0 hz1 hz2 rfl (by omega) w ao x r.length _ hx (one_ceC r) hr ty
/-- A slice that reads as these items. -/
def GotC (l : List Ce) (w : World) (e : Ending) (w' : World) : Prop := ∃ v, e = .returned v ∧ Ces w' v l ∧ w.grownBy w' none
set_option maxRecDepth 100000 in
set_option maxHeartbeats 1000000 in
theorem part_C (v : Value) (l : List Ce) (a b : Nat) (w : World) (hv : Ces w v l) (hl : l.length ≤ 1000000) (hab : a ≤ b) (hbn : b ≤ l.length) :
    Calls Tryz.prog 98 #[v, .int .i64 (a : Nat), .int .i64 (b : Nat)] w (GotC ((l.drop a).take (b - a)) w) := by
  have hv' := hv
  obtain ⟨ao, cap, rfl, hcap, hlen, hnil, hcell⟩ := hv
  have hc := cut_C (m := cap) hv' hab hbn (by omega) (Nat.le_refl _)
  have r1 := three_C ao l.length cap a (by omega)
  have r2 := both_C ao l.length cap a b hab (by omega)
  clear hcell hnil hlen hv'
  have HC := Lib.hid hc
  clear hc
  generalize cutA ao a cap 4 = ao' at r2 HC
  generalize cap - a = cc at r2 HC
  obtain ⟨nn, hnn⟩ : ∃ nn, b - a = nn := ⟨_, rfl⟩
  have hlr : ((l.drop a).take (b - a)).length ≤ 1000000 := by rw [List.length_take, List.length_drop]; omega
  rw [hnn] at r2 HC hlr ⊢
  clear hnn
  have HA : Hid (∀ W, w.grownBy W none → ∃ v' w', (Builtin.append_ #[22, 22] 22 #[.slice ao 0 0, .slice ao' nn cc]).run Tryz.prog W = .ok v' w' ∧ Ces w' v' ((l.drop a).take nn) ∧ W.grownBy w' none) :=
    Lib.hid (fun W hW => cut_app_C ao (Ces.keep0 HC.out hW) hlr _)
  generalize (l.drop a).take nn = r at HA ⊢
  clear hlr HC
  go_enter Tryz.func98, Tryz.ntmps98
  go_wp2
  refine wp_region_noPanic ?_
  refine wp_region_held_drew (S := fun w' => w.grownBy w' none) (by kernel_rfl) (gb_drew _ _) (fun hHeld => ?_)
  refine wpAnyH_take (i := 0) (v := ?_) (List.getElem?_toArray.trans rfl) (by kernel_rfl) (by kernel_rfl) (by kernel_rfl) (fun _ _ _ h => h) (Or.inl ⟨by rfl, ?_⟩) hHeld ?_
  rotate_left
  · intro w' hSw; go_simp; try with_reducible rfl
  try simp only [Act.put, List.setIfInBounds_toArray, List.set_cons_zero, List.set_cons_succ]
  refine wpAnyH_take (i := 1) (v := ?_) (List.getElem?_toArray.trans rfl) (by kernel_rfl) (by kernel_rfl) (by kernel_rfl) (fun _ _ _ h => h) (Or.inl ⟨by rfl, ?_⟩) hHeld ?_
  rotate_left
  · intro w' hSw; go_simp; try with_reducible rfl
  try simp only [Act.put, List.setIfInBounds_toArray, List.set_cons_zero, List.set_cons_succ]
  refine wpAnyH_take (i := 2) (v := ?_) (List.getElem?_toArray.trans rfl) (by kernel_rfl) (by kernel_rfl) (by kernel_rfl) (fun _ _ _ h => h) (Or.inl ⟨by rfl, ?_⟩) hHeld ?_
  rotate_left
  · intro w' hSw; go_simp; try with_reducible rfl
  try simp only [Act.put, List.setIfInBounds_toArray, List.set_cons_zero, List.set_cons_succ]
  refine wpAnyH_take (i := 3) (v := ?_) (List.getElem?_toArray.trans rfl) (by kernel_rfl) (by kernel_rfl) (by kernel_rfl) (fun _ _ _ h => h) (Or.inl ⟨by rfl, ?_⟩) hHeld ?_
  rotate_left
  · intro w' hSw; go_simp; try with_reducible rfl
  try simp only [Act.put, List.setIfInBounds_toArray, List.set_cons_zero, List.set_cons_succ]
  refine wpAnyH_take (i := 5) (v := ?_) (List.getElem?_toArray.trans rfl) (by kernel_rfl) (by kernel_rfl) (by kernel_rfl) (fun _ _ _ h => h) (Or.inl ⟨by rfl, ?_⟩) hHeld ?_
  rotate_left
  · intro w' hSw; go_simp; try with_reducible rfl
  try simp only [Act.put, List.setIfInBounds_toArray, List.set_cons_zero, List.set_cons_succ]
  refine wpAnyH_take (i := 6) (v := ?_) (List.getElem?_toArray.trans rfl) (by kernel_rfl) (by kernel_rfl) (by kernel_rfl) (fun _ _ _ h => h) (Or.inl ⟨by rfl, ?_⟩) hHeld ?_
  rotate_left
  · intro w' hSw; go_simp; try with_reducible rfl
  try simp only [Act.put, List.setIfInBounds_toArray, List.set_cons_zero, List.set_cons_succ]
  refine wpAnyH_take (i := 7) (v := ?_) (List.getElem?_toArray.trans rfl) (by kernel_rfl) (by kernel_rfl) (by kernel_rfl) (fun _ _ _ h => h) (Or.inl ⟨by rfl, ?_⟩) hHeld ?_
  rotate_left
  · intro w' hSw; go_simp; try with_reducible rfl
  try simp only [Act.put, List.setIfInBounds_toArray, List.set_cons_zero, List.set_cons_succ]
  refine wpAnyH_take (i := 4) (v := ?_) (List.getElem?_toArray.trans rfl) (by kernel_rfl) (by kernel_rfl) (by kernel_rfl) (fun _ _ _ h => h) (Or.inl ⟨by rfl, ?_⟩) hHeld ?_
  rotate_left
  · intro w' hSw; go_simp; try with_reducible rfl
  try simp only [Act.put, List.setIfInBounds_toArray, List.set_cons_zero, List.set_cons_succ]
  refine wpAnyH_take (i := 8) (v := ?_) (List.getElem?_toArray.trans rfl) (by kernel_rfl) (by kernel_rfl) (by kernel_rfl) (fun _ _ _ h => h) (Or.inl ⟨by rfl, ?_⟩) hHeld ?_
  rotate_left
  · intro w' hSw; go_simp; try with_reducible rfl
  try simp only [Act.put, List.setIfInBounds_toArray, List.set_cons_zero, List.set_cons_succ]
  refine wpAnyH_ready (rs := [9]) (by kernel_rfl) (by simp) ?_
  refine AllReadyH.cons (List.getElem?_toArray.trans rfl) (fun K hK => ?_) AllReadyH.nil
  obtain ⟨v', w2, hr, hs, hg⟩ := HA.out _ hHeld
  have HS := Lib.hid hs
  clear hs
  refine Lib.wp_append_run _ _ _ _ _ rfl _ _ rfl rfl _ _ hr ?_
  refine hK.out _ _ (gb_trans hHeld hg) (fun hHeld => ?_)
  clear hK K
  try simp only [Act.put, List.setIfInBounds_toArray, List.set_cons_zero, List.set_cons_succ]
  refine wpAnyH_take (i := 10) (v := ?_) (List.getElem?_toArray.trans rfl) (by kernel_rfl) (by kernel_rfl) (by kernel_rfl) (fun _ _ _ h => h) (Or.inl ⟨by rfl, ?_⟩) hHeld ?_
  rotate_left
  · intro w' hSw; go_simp; try with_reducible rfl
  try simp only [Act.put, List.setIfInBounds_toArray, List.set_cons_zero, List.set_cons_succ]
  refine wpAnyH_done (by kernel_rfl) ?_ _
  refine NoPanic.normal ?_
  go_wp2
  go_ret
  exact ⟨v', rfl, HS.out, hHeld⟩
theorem Tryz.infoNS : (Tryz.prog.info? 9).map (fun i => (i.zero, i.size, i.bytes)) = some (some (.string ⟨#[]⟩), 1, 16) := by kernel_rfl
/-- A row of the call's own that has these items. -/
def RowS (w : World) (base : Nat) (v : Value) (l : List ByteArray) : Prop := w.ownsRow base 9 1 v l.length (strsC l)
theorem RowS.sl {w : World} {base : Nat} {v : Value} {l : List ByteArray} (h : RowS w base v l) : Sts w v l := Sl.of_owns h
theorem RowS.nil (w : World) (base : Nat) : RowS w base (.slice none 0 0) [] := World.ownsRow_nil w base _ _
theorem RowS.keep0 {w w' : World} {base : Nat} {v : Value} {l : List ByteArray} (h : RowS w base v l) (g : w.grownBy w' none) : RowS w' base v l := by
  refine h.kept g ?_
  cases hb : v.ownBlock with
  | none => exact .inl rfl
  | some j => exact .inr (by simp)
theorem row_app_S {w : World} {base : Nat} {v x : Value} {l r : List ByteArray} (h : RowS w base v l) (hx : Sts w x r) (hl : l.length ≤ 1000000) (hr : r.length ≤ 1000000) (hb : base ≤ w.heap.size) (ty : TypeId) :
    ∃ v' w', (Builtin.append_ #[23, 23] ty #[v, x]).run Tryz.prog w = .ok v' w' ∧ RowS w' base v' (l ++ r) ∧ w.grownBy w' v.ownBlock := by
  obtain ⟨i0, hi, hz0, hz1, hz2⟩ := info_got Tryz.infoNS
  obtain ⟨v', w', h1, h2, h3⟩ := row_app (P := Tryz.prog) (k := 1) 23 9 i0 _ 16 Tryz.underlying23 hi hz0 hz1 hz2 rfl (by omega) (by omega) w base v x l.length r.length _ _ h hx (one_strsC r) (by omega) hb ty
  exact ⟨v', w', h1, by unfold RowS; rw [List.length_append, strsC_append]; exact h2, h3⟩
theorem cut_app_S {w : World} {x : Value} {r : List ByteArray} (ao : Option Addr) (hx : Sts w x r) (hr : r.length ≤ 1000000) (ty : TypeId) :
    ∃ v' w', (Builtin.append_ #[23, 23] ty #[.slice ao 0 0, x]).run Tryz.prog w = .ok v' w' ∧ Sts w' v' r ∧ w.grownBy w' none := by
  obtain ⟨i0, hi, hz0, hz1, hz2⟩ := info_got Tryz.infoNS
  exact cut_app (P := Tryz.prog) (k := 1) 23 9 i0 _ 16 Tryz.underlying23 hi hz0 hz1 hz2 rfl (by omega) w ao x r.length _ hx (one_strsC r) hr ty
/-- A slice that reads as these items. -/
def GotS (l : List ByteArray) (w : World) (e : Ending) (w' : World) : Prop := ∃ v, e = .returned v ∧ Sts w' v l ∧ w.grownBy w' none
set_option maxRecDepth 100000 in
set_option maxHeartbeats 1000000 in
theorem part_S (v : Value) (l : List ByteArray) (a b : Nat) (w : World) (hv : Sts w v l) (hl : l.length ≤ 1000000) (hab : a ≤ b) (hbn : b ≤ l.length) :
    Calls Tryz.prog 121 #[v, .int .i64 (a : Nat), .int .i64 (b : Nat)] w (GotS ((l.drop a).take (b - a)) w) := by
  have hv' := hv
  obtain ⟨ao, cap, rfl, hcap, hlen, hnil, hcell⟩ := hv
  have hc := cut_S (m := cap) hv' hab hbn (by omega) (Nat.le_refl _)
  have r1 := three_S ao l.length cap a (by omega)
  have r2 := both_S ao l.length cap a b hab (by omega)
  clear hcell hnil hlen hv'
  have HC := Lib.hid hc
  clear hc
  generalize cutA ao a cap 1 = ao' at r2 HC
  generalize cap - a = cc at r2 HC
  obtain ⟨nn, hnn⟩ : ∃ nn, b - a = nn := ⟨_, rfl⟩
  have hlr : ((l.drop a).take (b - a)).length ≤ 1000000 := by rw [List.length_take, List.length_drop]; omega
  rw [hnn] at r2 HC hlr ⊢
  clear hnn
  have HA : Hid (∀ W, w.grownBy W none → ∃ v' w', (Builtin.append_ #[23, 23] 23 #[.slice ao 0 0, .slice ao' nn cc]).run Tryz.prog W = .ok v' w' ∧ Sts w' v' ((l.drop a).take nn) ∧ W.grownBy w' none) :=
    Lib.hid (fun W hW => cut_app_S ao (stsKeep0 HC.out hW) hlr _)
  generalize (l.drop a).take nn = r at HA ⊢
  clear hlr HC
  go_enter Tryz.func121, Tryz.ntmps121
  go_wp2
  refine wp_region_noPanic ?_
  refine wp_region_held_drew (S := fun w' => w.grownBy w' none) (by kernel_rfl) (gb_drew _ _) (fun hHeld => ?_)
  refine wpAnyH_take (i := 0) (v := ?_) (List.getElem?_toArray.trans rfl) (by kernel_rfl) (by kernel_rfl) (by kernel_rfl) (fun _ _ _ h => h) (Or.inl ⟨by rfl, ?_⟩) hHeld ?_
  rotate_left
  · intro w' hSw; go_simp; try with_reducible rfl
  try simp only [Act.put, List.setIfInBounds_toArray, List.set_cons_zero, List.set_cons_succ]
  refine wpAnyH_take (i := 1) (v := ?_) (List.getElem?_toArray.trans rfl) (by kernel_rfl) (by kernel_rfl) (by kernel_rfl) (fun _ _ _ h => h) (Or.inl ⟨by rfl, ?_⟩) hHeld ?_
  rotate_left
  · intro w' hSw; go_simp; try with_reducible rfl
  try simp only [Act.put, List.setIfInBounds_toArray, List.set_cons_zero, List.set_cons_succ]
  refine wpAnyH_take (i := 2) (v := ?_) (List.getElem?_toArray.trans rfl) (by kernel_rfl) (by kernel_rfl) (by kernel_rfl) (fun _ _ _ h => h) (Or.inl ⟨by rfl, ?_⟩) hHeld ?_
  rotate_left
  · intro w' hSw; go_simp; try with_reducible rfl
  try simp only [Act.put, List.setIfInBounds_toArray, List.set_cons_zero, List.set_cons_succ]
  refine wpAnyH_take (i := 3) (v := ?_) (List.getElem?_toArray.trans rfl) (by kernel_rfl) (by kernel_rfl) (by kernel_rfl) (fun _ _ _ h => h) (Or.inl ⟨by rfl, ?_⟩) hHeld ?_
  rotate_left
  · intro w' hSw; go_simp; try with_reducible rfl
  try simp only [Act.put, List.setIfInBounds_toArray, List.set_cons_zero, List.set_cons_succ]
  refine wpAnyH_take (i := 5) (v := ?_) (List.getElem?_toArray.trans rfl) (by kernel_rfl) (by kernel_rfl) (by kernel_rfl) (fun _ _ _ h => h) (Or.inl ⟨by rfl, ?_⟩) hHeld ?_
  rotate_left
  · intro w' hSw; go_simp; try with_reducible rfl
  try simp only [Act.put, List.setIfInBounds_toArray, List.set_cons_zero, List.set_cons_succ]
  refine wpAnyH_take (i := 6) (v := ?_) (List.getElem?_toArray.trans rfl) (by kernel_rfl) (by kernel_rfl) (by kernel_rfl) (fun _ _ _ h => h) (Or.inl ⟨by rfl, ?_⟩) hHeld ?_
  rotate_left
  · intro w' hSw; go_simp; try with_reducible rfl
  try simp only [Act.put, List.setIfInBounds_toArray, List.set_cons_zero, List.set_cons_succ]
  refine wpAnyH_take (i := 7) (v := ?_) (List.getElem?_toArray.trans rfl) (by kernel_rfl) (by kernel_rfl) (by kernel_rfl) (fun _ _ _ h => h) (Or.inl ⟨by rfl, ?_⟩) hHeld ?_
  rotate_left
  · intro w' hSw; go_simp; try with_reducible rfl
  try simp only [Act.put, List.setIfInBounds_toArray, List.set_cons_zero, List.set_cons_succ]
  refine wpAnyH_take (i := 4) (v := ?_) (List.getElem?_toArray.trans rfl) (by kernel_rfl) (by kernel_rfl) (by kernel_rfl) (fun _ _ _ h => h) (Or.inl ⟨by rfl, ?_⟩) hHeld ?_
  rotate_left
  · intro w' hSw; go_simp; try with_reducible rfl
  try simp only [Act.put, List.setIfInBounds_toArray, List.set_cons_zero, List.set_cons_succ]
  refine wpAnyH_take (i := 8) (v := ?_) (List.getElem?_toArray.trans rfl) (by kernel_rfl) (by kernel_rfl) (by kernel_rfl) (fun _ _ _ h => h) (Or.inl ⟨by rfl, ?_⟩) hHeld ?_
  rotate_left
  · intro w' hSw; go_simp; try with_reducible rfl
  try simp only [Act.put, List.setIfInBounds_toArray, List.set_cons_zero, List.set_cons_succ]
  refine wpAnyH_ready (rs := [9]) (by kernel_rfl) (by simp) ?_
  refine AllReadyH.cons (List.getElem?_toArray.trans rfl) (fun K hK => ?_) AllReadyH.nil
  obtain ⟨v', w2, hr, hs, hg⟩ := HA.out _ hHeld
  have HS := Lib.hid hs
  clear hs
  refine Lib.wp_append_run _ _ _ _ _ rfl _ _ rfl rfl _ _ hr ?_
  refine hK.out _ _ (gb_trans hHeld hg) (fun hHeld => ?_)
  clear hK K
  try simp only [Act.put, List.setIfInBounds_toArray, List.set_cons_zero, List.set_cons_succ]
  refine wpAnyH_take (i := 10) (v := ?_) (List.getElem?_toArray.trans rfl) (by kernel_rfl) (by kernel_rfl) (by kernel_rfl) (fun _ _ _ h => h) (Or.inl ⟨by rfl, ?_⟩) hHeld ?_
  rotate_left
  · intro w' hSw; go_simp; try with_reducible rfl
  try simp only [Act.put, List.setIfInBounds_toArray, List.set_cons_zero, List.set_cons_succ]
  refine wpAnyH_done (by kernel_rfl) ?_ _
  refine NoPanic.normal ?_
  go_wp2
  go_ret
  exact ⟨v', rfl, HS.out, hHeld⟩
theorem Tryz.infoNI : (Tryz.prog.info? 3).map (fun i => (i.zero, i.size, i.bytes)) = some (some (.int .i64 0), 1, 8) := by kernel_rfl
/-- A row of the call's own that has these items. -/
def RowI (w : World) (base : Nat) (v : Value) (l : List Int) : Prop := w.ownsRow base 3 1 v l.length (inC l)
theorem RowI.sl {w : World} {base : Nat} {v : Value} {l : List Int} (h : RowI w base v l) : Ins w v l := Sl.of_owns h
theorem RowI.nil (w : World) (base : Nat) : RowI w base (.slice none 0 0) [] := World.ownsRow_nil w base _ _
theorem RowI.keep0 {w w' : World} {base : Nat} {v : Value} {l : List Int} (h : RowI w base v l) (g : w.grownBy w' none) : RowI w' base v l := by
  refine h.kept g ?_
  cases hb : v.ownBlock with
  | none => exact .inl rfl
  | some j => exact .inr (by simp)
theorem row_app_I {w : World} {base : Nat} {v x : Value} {l r : List Int} (h : RowI w base v l) (hx : Ins w x r) (hl : l.length ≤ 1000000) (hr : r.length ≤ 1000000) (hb : base ≤ w.heap.size) (ty : TypeId) :
    ∃ v' w', (Builtin.append_ #[24, 24] ty #[v, x]).run Tryz.prog w = .ok v' w' ∧ RowI w' base v' (l ++ r) ∧ w.grownBy w' v.ownBlock := by
  obtain ⟨i0, hi, hz0, hz1, hz2⟩ := info_got Tryz.infoNI
  obtain ⟨v', w', h1, h2, h3⟩ := row_app (P := Tryz.prog) (k := 1) 24 3 i0 _ 8 Tryz.underlying24 hi hz0 hz1 hz2 rfl (by omega) (by omega) w base v x l.length r.length _ _ h hx (one_inC r) (by omega) hb ty
  exact ⟨v', w', h1, by unfold RowI; rw [List.length_append, inC_append]; exact h2, h3⟩
theorem cut_app_I {w : World} {x : Value} {r : List Int} (ao : Option Addr) (hx : Ins w x r) (hr : r.length ≤ 1000000) (ty : TypeId) :
    ∃ v' w', (Builtin.append_ #[24, 24] ty #[.slice ao 0 0, x]).run Tryz.prog w = .ok v' w' ∧ Ins w' v' r ∧ w.grownBy w' none := by
  obtain ⟨i0, hi, hz0, hz1, hz2⟩ := info_got Tryz.infoNI
  exact cut_app (P := Tryz.prog) (k := 1) 24 3 i0 _ 8 Tryz.underlying24 hi hz0 hz1 hz2 rfl (by omega) w ao x r.length _ hx (one_inC r) hr ty
/-- A slice that reads as these items. -/
def GotI (l : List Int) (w : World) (e : Ending) (w' : World) : Prop := ∃ v, e = .returned v ∧ Ins w' v l ∧ w.grownBy w' none
set_option maxRecDepth 100000 in
set_option maxHeartbeats 1000000 in
theorem part_I (v : Value) (l : List Int) (a b : Nat) (w : World) (hv : Ins w v l) (hl : l.length ≤ 1000000) (hab : a ≤ b) (hbn : b ≤ l.length) :
    Calls Tryz.prog 122 #[v, .int .i64 (a : Nat), .int .i64 (b : Nat)] w (GotI ((l.drop a).take (b - a)) w) := by
  have hv' := hv
  obtain ⟨ao, cap, rfl, hcap, hlen, hnil, hcell⟩ := hv
  have hc := cut_I (m := cap) hv' hab hbn (by omega) (Nat.le_refl _)
  have r1 := three_I ao l.length cap a (by omega)
  have r2 := both_I ao l.length cap a b hab (by omega)
  clear hcell hnil hlen hv'
  have HC := Lib.hid hc
  clear hc
  generalize cutA ao a cap 1 = ao' at r2 HC
  generalize cap - a = cc at r2 HC
  obtain ⟨nn, hnn⟩ : ∃ nn, b - a = nn := ⟨_, rfl⟩
  have hlr : ((l.drop a).take (b - a)).length ≤ 1000000 := by rw [List.length_take, List.length_drop]; omega
  rw [hnn] at r2 HC hlr ⊢
  clear hnn
  have HA : Hid (∀ W, w.grownBy W none → ∃ v' w', (Builtin.append_ #[24, 24] 24 #[.slice ao 0 0, .slice ao' nn cc]).run Tryz.prog W = .ok v' w' ∧ Ins w' v' ((l.drop a).take nn) ∧ W.grownBy w' none) :=
    Lib.hid (fun W hW => cut_app_I ao (Ins.keep0 HC.out hW) hlr _)
  generalize (l.drop a).take nn = r at HA ⊢
  clear hlr HC
  go_enter Tryz.func122, Tryz.ntmps122
  go_wp2
  refine wp_region_noPanic ?_
  refine wp_region_held_drew (S := fun w' => w.grownBy w' none) (by kernel_rfl) (gb_drew _ _) (fun hHeld => ?_)
  refine wpAnyH_take (i := 0) (v := ?_) (List.getElem?_toArray.trans rfl) (by kernel_rfl) (by kernel_rfl) (by kernel_rfl) (fun _ _ _ h => h) (Or.inl ⟨by rfl, ?_⟩) hHeld ?_
  rotate_left
  · intro w' hSw; go_simp; try with_reducible rfl
  try simp only [Act.put, List.setIfInBounds_toArray, List.set_cons_zero, List.set_cons_succ]
  refine wpAnyH_take (i := 1) (v := ?_) (List.getElem?_toArray.trans rfl) (by kernel_rfl) (by kernel_rfl) (by kernel_rfl) (fun _ _ _ h => h) (Or.inl ⟨by rfl, ?_⟩) hHeld ?_
  rotate_left
  · intro w' hSw; go_simp; try with_reducible rfl
  try simp only [Act.put, List.setIfInBounds_toArray, List.set_cons_zero, List.set_cons_succ]
  refine wpAnyH_take (i := 2) (v := ?_) (List.getElem?_toArray.trans rfl) (by kernel_rfl) (by kernel_rfl) (by kernel_rfl) (fun _ _ _ h => h) (Or.inl ⟨by rfl, ?_⟩) hHeld ?_
  rotate_left
  · intro w' hSw; go_simp; try with_reducible rfl
  try simp only [Act.put, List.setIfInBounds_toArray, List.set_cons_zero, List.set_cons_succ]
  refine wpAnyH_take (i := 3) (v := ?_) (List.getElem?_toArray.trans rfl) (by kernel_rfl) (by kernel_rfl) (by kernel_rfl) (fun _ _ _ h => h) (Or.inl ⟨by rfl, ?_⟩) hHeld ?_
  rotate_left
  · intro w' hSw; go_simp; try with_reducible rfl
  try simp only [Act.put, List.setIfInBounds_toArray, List.set_cons_zero, List.set_cons_succ]
  refine wpAnyH_take (i := 5) (v := ?_) (List.getElem?_toArray.trans rfl) (by kernel_rfl) (by kernel_rfl) (by kernel_rfl) (fun _ _ _ h => h) (Or.inl ⟨by rfl, ?_⟩) hHeld ?_
  rotate_left
  · intro w' hSw; go_simp; try with_reducible rfl
  try simp only [Act.put, List.setIfInBounds_toArray, List.set_cons_zero, List.set_cons_succ]
  refine wpAnyH_take (i := 6) (v := ?_) (List.getElem?_toArray.trans rfl) (by kernel_rfl) (by kernel_rfl) (by kernel_rfl) (fun _ _ _ h => h) (Or.inl ⟨by rfl, ?_⟩) hHeld ?_
  rotate_left
  · intro w' hSw; go_simp; try with_reducible rfl
  try simp only [Act.put, List.setIfInBounds_toArray, List.set_cons_zero, List.set_cons_succ]
  refine wpAnyH_take (i := 7) (v := ?_) (List.getElem?_toArray.trans rfl) (by kernel_rfl) (by kernel_rfl) (by kernel_rfl) (fun _ _ _ h => h) (Or.inl ⟨by rfl, ?_⟩) hHeld ?_
  rotate_left
  · intro w' hSw; go_simp; try with_reducible rfl
  try simp only [Act.put, List.setIfInBounds_toArray, List.set_cons_zero, List.set_cons_succ]
  refine wpAnyH_take (i := 4) (v := ?_) (List.getElem?_toArray.trans rfl) (by kernel_rfl) (by kernel_rfl) (by kernel_rfl) (fun _ _ _ h => h) (Or.inl ⟨by rfl, ?_⟩) hHeld ?_
  rotate_left
  · intro w' hSw; go_simp; try with_reducible rfl
  try simp only [Act.put, List.setIfInBounds_toArray, List.set_cons_zero, List.set_cons_succ]
  refine wpAnyH_take (i := 8) (v := ?_) (List.getElem?_toArray.trans rfl) (by kernel_rfl) (by kernel_rfl) (by kernel_rfl) (fun _ _ _ h => h) (Or.inl ⟨by rfl, ?_⟩) hHeld ?_
  rotate_left
  · intro w' hSw; go_simp; try with_reducible rfl
  try simp only [Act.put, List.setIfInBounds_toArray, List.set_cons_zero, List.set_cons_succ]
  refine wpAnyH_ready (rs := [9]) (by kernel_rfl) (by simp) ?_
  refine AllReadyH.cons (List.getElem?_toArray.trans rfl) (fun K hK => ?_) AllReadyH.nil
  obtain ⟨v', w2, hr, hs, hg⟩ := HA.out _ hHeld
  have HS := Lib.hid hs
  clear hs
  refine Lib.wp_append_run _ _ _ _ _ rfl _ _ rfl rfl _ _ hr ?_
  refine hK.out _ _ (gb_trans hHeld hg) (fun hHeld => ?_)
  clear hK K
  try simp only [Act.put, List.setIfInBounds_toArray, List.set_cons_zero, List.set_cons_succ]
  refine wpAnyH_take (i := 10) (v := ?_) (List.getElem?_toArray.trans rfl) (by kernel_rfl) (by kernel_rfl) (by kernel_rfl) (fun _ _ _ h => h) (Or.inl ⟨by rfl, ?_⟩) hHeld ?_
  rotate_left
  · intro w' hSw; go_simp; try with_reducible rfl
  try simp only [Act.put, List.setIfInBounds_toArray, List.set_cons_zero, List.set_cons_succ]
  refine wpAnyH_done (by kernel_rfl) ?_ _
  refine NoPanic.normal ?_
  go_wp2
  go_ret
  exact ⟨v', rfl, HS.out, hHeld⟩
/-- A new row without items. -/
def GrownC (w : World) (e : Ending) (w' : World) : Prop := ∃ v, e = .returned v ∧ RowC w' w.heap.size v [] ∧ w.grownBy w' none
set_option maxRecDepth 100000 in
set_option maxHeartbeats 1000000 in
theorem grow_C (n : Nat) (w : World) (hn : n ≤ 1000000) :
    Calls Tryz.prog 108 #[.slice none 0 0, .int .i64 (n : Nat)] w (GrownC w) := by
  by_cases h0 : n = 0
  · subst h0
    go_enter Tryz.func108, Tryz.ntmps108
    go_wp2
    go_ret
    exact ⟨_, rfl, RowC.nil _ _, gb_refl _ _⟩
  · obtain ⟨i0, hi, hz0, hz1, hz2⟩ := info_got Tryz.infoNC
    have hle : n * i0.bytes ≤ 1000000 * 48 := Nat.mul_le_mul hn (by rw [hz2]; omega)
    have hr := Lib.run_append_nil_zeros (P := Tryz.prog) w 22 3 22 55 i0 _ .i64 .i64 Tryz.underlying22 Tryz.underlying3 hi hz0 n (by omega) (by omega) (by omega) (by omega)
    have hge := grownCap_ge w n 0 55
    have hcm : grownCap w n 0 55 ≤ maxLen := grownCap_le_maxLen w n 0 _ (by unfold maxLen; omega)
    generalize grownCap w n 0 55 = gc at hr hge hcm
    have hsl : ∀ W, (Instr.sliceAt 22 (.slice (some ⟨w.heap.size, 0, none⟩) n gc) none (some (.int .i64 0)) none).run Tryz.prog W = .ok (.slice (some ⟨w.heap.size, 0, none⟩) 0 gc) W := by
      intro W
      have := upto_C (some ⟨w.heap.size, 0, none⟩) n gc 0 (Nat.zero_le _) W
      rw [show cutA (some ⟨w.heap.size, 0, none⟩) 0 gc 4 = some ⟨w.heap.size, 0, none⟩ by unfold cutA; rw [if_neg (by omega)]; simp [Addr.add]] at this
      exact this
    have HO : Hid (∀ W : World, W.heap.size = w.heap.size → (W.alloc (.cells (Builtin.zeroCells (Value.cells (.agg #[.string ⟨#[]⟩, .string ⟨#[]⟩, .int .i64 0, .int .i64 0])) n ++ Builtin.zeroCells (Value.cells (.agg #[.string ⟨#[]⟩, .string ⟨#[]⟩, .int .i64 0, .int .i64 0])) (gc - n)) 55)).ownsRow w.heap.size 55 4 (.slice (some ⟨W.heap.size, 0, none⟩) 0 gc) 0 []) :=
      Lib.hid (fun W hW => World.ownsRow_made W _ gc (by omega) hcm (by
        rw [Array.size_append, size_zeroCells, size_zeroCells, ← Nat.add_mul, show n + (gc - n) = gc by omega]; rfl))
    have h1 : 0 < (n : Int) := by omega
    generalize Builtin.zeroCells (Value.cells (.agg #[.string ⟨#[]⟩, .string ⟨#[]⟩, .int .i64 0, .int .i64 0])) n ++ Builtin.zeroCells (Value.cells (.agg #[.string ⟨#[]⟩, .string ⟨#[]⟩, .int .i64 0, .int .i64 0])) (gc - n) = zs at hr HO
    have HR := Lib.hid hr
    clear hr hi hz0 hz1 hz2 hle hge hcm h0
    go_enter Tryz.func108, Tryz.ntmps108
    go_wp2_with (at_builtin; go_must (refine Lib.wpList_append_run _ rfl _ _ _ _ rfl _ _ rfl rfl _ _ HR.out ?_))
    go_ret
    exact ⟨_, rfl, HO.out w.drew rfl, gb_trans (gb_drew _ _) (gb_alloc _ _ _)⟩
/-- Slices in a slice, each of which reads as a list. -/
def PartsC (w : World) (v : Value) (ls : List (List Ce)) : Prop :=
  ∃ a cap, v = .slice (some a) ls.length cap ∧ ls.length ≤ cap ∧ ∀ i l, ls[i]? = some l → ∃ x, w.cell? (a.add i) = some x ∧ Ces w x l
theorem flat_len_C (ls : List (List Ce)) (i : Nat) (l : List Ce) (h : ls[i]? = some l) : (ls.take (i + 1)).flatten = (ls.take i).flatten ++ l ∧ ((ls.take i).flatten ++ l).length ≤ ls.flatten.length := by
  have e : (ls.take (i + 1)).flatten = (ls.take i).flatten ++ l := by rw [List.take_add_one, h]; simp
  refine ⟨e, ?_⟩
  rw [← e]
  have := congrArg (fun z => (List.flatten z).length) (List.take_append_drop (i + 1) ls)
  simp only [List.flatten_append, List.length_append] at this
  omega
set_option maxRecDepth 100000 in
set_option maxHeartbeats 1000000 in
theorem concat_C (v : Value) (ls : List (List Ce)) (w : World) (hv : PartsC w v ls) (hn : ls.length ≤ 1000) (hl : ls.flatten.length ≤ 1000000) :
    Calls Tryz.prog 99 #[v] w (GotC ls.flatten w) := by
  obtain ⟨a, cap, rfl, hcap, hcell⟩ := hv
  have HC := Lib.hid hcell
  clear hcell
  go_enter Tryz.func99, Tryz.ntmps99
  go_wp2
  go_loop [3, 11] (fun s i => ∃ j : Nat, j ≤ ls.length ∧ i = .int .i64 j ∧ s = .int .i64 ((ls.take j).flatten.length : Nat)) (fun _ i => ls.length - (intOf i).toNat)
  case atStart => exact ⟨0, Nat.zero_le _, rfl, rfl⟩
  case round =>
    obtain ⟨j, hj, rfl, rfl⟩ := hrel
    by_cases hlt : j < ls.length
    · obtain ⟨l, hx⟩ : ∃ l, ls[j]? = some l := ⟨_, List.getElem?_eq_getElem hlt⟩
      obtain ⟨x, hc, ao, cp, rfl, _, _, _, _⟩ := HC.out j l hx
      obtain ⟨he, hle⟩ := flat_len_C ls j l hx
      rw [List.length_append] at hle
      have HE := Lib.hid he
      clear he hx
      generalize hf : (ls.take j).flatten = fl at HE hle ⊢
      clear hf
      go_wp2
      go_round
      case rel => exact ⟨j + 1, by omega, by go_num, by rw [HE.out, List.length_append]; go_num⟩
      case measure => simp [intOf]; omega
    · have hj2 : j = ls.length := by omega
      subst hj2
      rw [List.take_length]
      clear hj hlt
      generalize hN : ls.flatten.length = N at hl ⊢
      have HN := Lib.hid hN
      clear hN
      go_wp2_with (go_at_call 108; (with_reducible refine (grow_C N _ hl).mono ?_); rintro e w1 ⟨v1, rfl, hr1, hg1⟩)
      have HR1 := Lib.hid hr1
      clear hr1
      go_loopw [6, 27] (fun s i wr => ∃ j : Nat, j ≤ ls.length ∧ i = .int .i64 j ∧ Hid (RowC wr w.heap.size s (ls.take j).flatten) ∧ w.grownBy wr none) (fun _ i _ => ls.length - (intOf i).toNat)
      case atStart => exact ⟨0, Nat.zero_le _, rfl, HR1, hg1⟩
      case round =>
        obtain ⟨j, hj, rfl, hrow, gr⟩ := hrel
        by_cases hlt : j < ls.length
        · obtain ⟨l, hx⟩ : ∃ l, ls[j]? = some l := ⟨_, List.getElem?_eq_getElem hlt⟩
          obtain ⟨x, hc, hp⟩ := HC.out j l hx
          replace hc := gr.cell hc (by simp)
          obtain ⟨he, hle⟩ := flat_len_C ls j l hx
          rw [HN.out, List.length_append] at hle
          obtain ⟨v', w', hr, hs, hg⟩ := row_app_C hrow.out (Ces.keep0 hp gr) (by omega) (by omega) gr.size 22
          have hgw := gb_own gr hrow.out hg
          rw [← he] at hs
          have HS := Lib.hid hs
          have HR := Lib.hid hr
          clear hs hr he hx hle hp hg
          go_wp2_with (at_builtin; go_must (refine Lib.wpList_append_run _ rfl _ _ _ _ rfl _ _ rfl rfl _ _ HR.out ?_))
          go_roundw
          case rel => exact ⟨j + 1, by omega, by go_num, HS, hgw⟩
          case measure => simp [intOf]; omega
        · have hj2 : j = ls.length := by omega
          subst hj2
          rw [List.take_length] at hrow
          go_wp2
          go_ret
          exact ⟨_, rfl, hrow.out.sl, gr⟩
/-- A new row without items. -/
def GrownS (w : World) (e : Ending) (w' : World) : Prop := ∃ v, e = .returned v ∧ RowS w' w.heap.size v [] ∧ w.grownBy w' none
set_option maxRecDepth 100000 in
set_option maxHeartbeats 1000000 in
theorem grow_S (n : Nat) (w : World) (hn : n ≤ 1000000) :
    Calls Tryz.prog 130 #[.slice none 0 0, .int .i64 (n : Nat)] w (GrownS w) := by
  by_cases h0 : n = 0
  · subst h0
    go_enter Tryz.func130, Tryz.ntmps130
    go_wp2
    go_ret
    exact ⟨_, rfl, RowS.nil _ _, gb_refl _ _⟩
  · obtain ⟨i0, hi, hz0, hz1, hz2⟩ := info_got Tryz.infoNS
    have hle : n * i0.bytes ≤ 1000000 * 16 := Nat.mul_le_mul hn (by rw [hz2]; omega)
    have hr := Lib.run_append_nil_zeros (P := Tryz.prog) w 23 3 23 9 i0 _ .i64 .i64 Tryz.underlying23 Tryz.underlying3 hi hz0 n (by omega) (by omega) (by omega) (by omega)
    have hge := grownCap_ge w n 0 9
    have hcm : grownCap w n 0 9 ≤ maxLen := grownCap_le_maxLen w n 0 _ (by unfold maxLen; omega)
    generalize grownCap w n 0 9 = gc at hr hge hcm
    have hsl : ∀ W, (Instr.sliceAt 23 (.slice (some ⟨w.heap.size, 0, none⟩) n gc) none (some (.int .i64 0)) none).run Tryz.prog W = .ok (.slice (some ⟨w.heap.size, 0, none⟩) 0 gc) W := by
      intro W
      have := upto_S (some ⟨w.heap.size, 0, none⟩) n gc 0 (Nat.zero_le _) W
      rw [show cutA (some ⟨w.heap.size, 0, none⟩) 0 gc 1 = some ⟨w.heap.size, 0, none⟩ by unfold cutA; rw [if_neg (by omega)]; simp [Addr.add]] at this
      exact this
    have HO : Hid (∀ W : World, W.heap.size = w.heap.size → (W.alloc (.cells (Builtin.zeroCells (Value.cells (.string ⟨#[]⟩)) n ++ Builtin.zeroCells (Value.cells (.string ⟨#[]⟩)) (gc - n)) 9)).ownsRow w.heap.size 9 1 (.slice (some ⟨W.heap.size, 0, none⟩) 0 gc) 0 []) :=
      Lib.hid (fun W hW => World.ownsRow_made W _ gc (by omega) hcm (by
        rw [Array.size_append, size_zeroCells, size_zeroCells, ← Nat.add_mul, show n + (gc - n) = gc by omega]; rfl))
    have h1 : 0 < (n : Int) := by omega
    generalize Builtin.zeroCells (Value.cells (.string ⟨#[]⟩)) n ++ Builtin.zeroCells (Value.cells (.string ⟨#[]⟩)) (gc - n) = zs at hr HO
    have HR := Lib.hid hr
    clear hr hi hz0 hz1 hz2 hle hge hcm h0
    go_enter Tryz.func130, Tryz.ntmps130
    go_wp2_with (at_builtin; go_must (refine Lib.wpList_append_run _ rfl _ _ _ _ rfl _ _ rfl rfl _ _ HR.out ?_))
    go_ret
    exact ⟨_, rfl, HO.out w.drew rfl, gb_trans (gb_drew _ _) (gb_alloc _ _ _)⟩
/-- Slices in a slice, each of which reads as a list. -/
def PartsS (w : World) (v : Value) (ls : List (List ByteArray)) : Prop :=
  ∃ a cap, v = .slice (some a) ls.length cap ∧ ls.length ≤ cap ∧ ∀ i l, ls[i]? = some l → ∃ x, w.cell? (a.add i) = some x ∧ Sts w x l
theorem flat_len_S (ls : List (List ByteArray)) (i : Nat) (l : List ByteArray) (h : ls[i]? = some l) : (ls.take (i + 1)).flatten = (ls.take i).flatten ++ l ∧ ((ls.take i).flatten ++ l).length ≤ ls.flatten.length := by
  have e : (ls.take (i + 1)).flatten = (ls.take i).flatten ++ l := by rw [List.take_add_one, h]; simp
  refine ⟨e, ?_⟩
  rw [← e]
  have := congrArg (fun z => (List.flatten z).length) (List.take_append_drop (i + 1) ls)
  simp only [List.flatten_append, List.length_append] at this
  omega
set_option maxRecDepth 100000 in
set_option maxHeartbeats 1000000 in
theorem concat_S (v : Value) (ls : List (List ByteArray)) (w : World) (hv : PartsS w v ls) (hn : ls.length ≤ 1000) (hl : ls.flatten.length ≤ 1000000) :
    Calls Tryz.prog 123 #[v] w (GotS ls.flatten w) := by
  obtain ⟨a, cap, rfl, hcap, hcell⟩ := hv
  have HC := Lib.hid hcell
  clear hcell
  go_enter Tryz.func123, Tryz.ntmps123
  go_wp2
  go_loop [3, 11] (fun s i => ∃ j : Nat, j ≤ ls.length ∧ i = .int .i64 j ∧ s = .int .i64 ((ls.take j).flatten.length : Nat)) (fun _ i => ls.length - (intOf i).toNat)
  case atStart => exact ⟨0, Nat.zero_le _, rfl, rfl⟩
  case round =>
    obtain ⟨j, hj, rfl, rfl⟩ := hrel
    by_cases hlt : j < ls.length
    · obtain ⟨l, hx⟩ : ∃ l, ls[j]? = some l := ⟨_, List.getElem?_eq_getElem hlt⟩
      obtain ⟨x, hc, ao, cp, rfl, _, _, _, _⟩ := HC.out j l hx
      obtain ⟨he, hle⟩ := flat_len_S ls j l hx
      rw [List.length_append] at hle
      have HE := Lib.hid he
      clear he hx
      generalize hf : (ls.take j).flatten = fl at HE hle ⊢
      clear hf
      go_wp2
      go_round
      case rel => exact ⟨j + 1, by omega, by go_num, by rw [HE.out, List.length_append]; go_num⟩
      case measure => simp [intOf]; omega
    · have hj2 : j = ls.length := by omega
      subst hj2
      rw [List.take_length]
      clear hj hlt
      generalize hN : ls.flatten.length = N at hl ⊢
      have HN := Lib.hid hN
      clear hN
      go_wp2_with (go_at_call 130; (with_reducible refine (grow_S N _ hl).mono ?_); rintro e w1 ⟨v1, rfl, hr1, hg1⟩)
      have HR1 := Lib.hid hr1
      clear hr1
      go_loopw [6, 27] (fun s i wr => ∃ j : Nat, j ≤ ls.length ∧ i = .int .i64 j ∧ Hid (RowS wr w.heap.size s (ls.take j).flatten) ∧ w.grownBy wr none) (fun _ i _ => ls.length - (intOf i).toNat)
      case atStart => exact ⟨0, Nat.zero_le _, rfl, HR1, hg1⟩
      case round =>
        obtain ⟨j, hj, rfl, hrow, gr⟩ := hrel
        by_cases hlt : j < ls.length
        · obtain ⟨l, hx⟩ : ∃ l, ls[j]? = some l := ⟨_, List.getElem?_eq_getElem hlt⟩
          obtain ⟨x, hc, hp⟩ := HC.out j l hx
          replace hc := gr.cell hc (by simp)
          obtain ⟨he, hle⟩ := flat_len_S ls j l hx
          rw [HN.out, List.length_append] at hle
          obtain ⟨v', w', hr, hs, hg⟩ := row_app_S hrow.out (stsKeep0 hp gr) (by omega) (by omega) gr.size 23
          have hgw := gb_own gr hrow.out hg
          rw [← he] at hs
          have HS := Lib.hid hs
          have HR := Lib.hid hr
          clear hs hr he hx hle hp hg
          go_wp2_with (at_builtin; go_must (refine Lib.wpList_append_run _ rfl _ _ _ _ rfl _ _ rfl rfl _ _ HR.out ?_))
          go_roundw
          case rel => exact ⟨j + 1, by omega, by go_num, HS, hgw⟩
          case measure => simp [intOf]; omega
        · have hj2 : j = ls.length := by omega
          subst hj2
          rw [List.take_length] at hrow
          go_wp2
          go_ret
          exact ⟨_, rfl, hrow.out.sl, gr⟩
/-- A new row without items. -/
def GrownI (w : World) (e : Ending) (w' : World) : Prop := ∃ v, e = .returned v ∧ RowI w' w.heap.size v [] ∧ w.grownBy w' none
set_option maxRecDepth 100000 in
set_option maxHeartbeats 1000000 in
theorem grow_I (n : Nat) (w : World) (hn : n ≤ 1000000) :
    Calls Tryz.prog 131 #[.slice none 0 0, .int .i64 (n : Nat)] w (GrownI w) := by
  by_cases h0 : n = 0
  · subst h0
    go_enter Tryz.func131, Tryz.ntmps131
    go_wp2
    go_ret
    exact ⟨_, rfl, RowI.nil _ _, gb_refl _ _⟩
  · obtain ⟨i0, hi, hz0, hz1, hz2⟩ := info_got Tryz.infoNI
    have hle : n * i0.bytes ≤ 1000000 * 8 := Nat.mul_le_mul hn (by rw [hz2]; omega)
    have hr := Lib.run_append_nil_zeros (P := Tryz.prog) w 24 3 24 3 i0 _ .i64 .i64 Tryz.underlying24 Tryz.underlying3 hi hz0 n (by omega) (by omega) (by omega) (by omega)
    have hge := grownCap_ge w n 0 3
    have hcm : grownCap w n 0 3 ≤ maxLen := grownCap_le_maxLen w n 0 _ (by unfold maxLen; omega)
    generalize grownCap w n 0 3 = gc at hr hge hcm
    have hsl : ∀ W, (Instr.sliceAt 24 (.slice (some ⟨w.heap.size, 0, none⟩) n gc) none (some (.int .i64 0)) none).run Tryz.prog W = .ok (.slice (some ⟨w.heap.size, 0, none⟩) 0 gc) W := by
      intro W
      have := upto_I (some ⟨w.heap.size, 0, none⟩) n gc 0 (Nat.zero_le _) W
      rw [show cutA (some ⟨w.heap.size, 0, none⟩) 0 gc 1 = some ⟨w.heap.size, 0, none⟩ by unfold cutA; rw [if_neg (by omega)]; simp [Addr.add]] at this
      exact this
    have HO : Hid (∀ W : World, W.heap.size = w.heap.size → (W.alloc (.cells (Builtin.zeroCells (Value.cells (.int .i64 0)) n ++ Builtin.zeroCells (Value.cells (.int .i64 0)) (gc - n)) 3)).ownsRow w.heap.size 3 1 (.slice (some ⟨W.heap.size, 0, none⟩) 0 gc) 0 []) :=
      Lib.hid (fun W hW => World.ownsRow_made W _ gc (by omega) hcm (by
        rw [Array.size_append, size_zeroCells, size_zeroCells, ← Nat.add_mul, show n + (gc - n) = gc by omega]; rfl))
    have h1 : 0 < (n : Int) := by omega
    generalize Builtin.zeroCells (Value.cells (.int .i64 0)) n ++ Builtin.zeroCells (Value.cells (.int .i64 0)) (gc - n) = zs at hr HO
    have HR := Lib.hid hr
    clear hr hi hz0 hz1 hz2 hle hge hcm h0
    go_enter Tryz.func131, Tryz.ntmps131
    go_wp2_with (at_builtin; go_must (refine Lib.wpList_append_run _ rfl _ _ _ _ rfl _ _ rfl rfl _ _ HR.out ?_))
    go_ret
    exact ⟨_, rfl, HO.out w.drew rfl, gb_trans (gb_drew _ _) (gb_alloc _ _ _)⟩
/-- Slices in a slice, each of which reads as a list. -/
def PartsI (w : World) (v : Value) (ls : List (List Int)) : Prop :=
  ∃ a cap, v = .slice (some a) ls.length cap ∧ ls.length ≤ cap ∧ ∀ i l, ls[i]? = some l → ∃ x, w.cell? (a.add i) = some x ∧ Ins w x l
theorem flat_len_I (ls : List (List Int)) (i : Nat) (l : List Int) (h : ls[i]? = some l) : (ls.take (i + 1)).flatten = (ls.take i).flatten ++ l ∧ ((ls.take i).flatten ++ l).length ≤ ls.flatten.length := by
  have e : (ls.take (i + 1)).flatten = (ls.take i).flatten ++ l := by rw [List.take_add_one, h]; simp
  refine ⟨e, ?_⟩
  rw [← e]
  have := congrArg (fun z => (List.flatten z).length) (List.take_append_drop (i + 1) ls)
  simp only [List.flatten_append, List.length_append] at this
  omega
set_option maxRecDepth 100000 in
set_option maxHeartbeats 1000000 in
theorem concat_I (v : Value) (ls : List (List Int)) (w : World) (hv : PartsI w v ls) (hn : ls.length ≤ 1000) (hl : ls.flatten.length ≤ 1000000) :
    Calls Tryz.prog 124 #[v] w (GotI ls.flatten w) := by
  obtain ⟨a, cap, rfl, hcap, hcell⟩ := hv
  have HC := Lib.hid hcell
  clear hcell
  go_enter Tryz.func124, Tryz.ntmps124
  go_wp2
  go_loop [3, 11] (fun s i => ∃ j : Nat, j ≤ ls.length ∧ i = .int .i64 j ∧ s = .int .i64 ((ls.take j).flatten.length : Nat)) (fun _ i => ls.length - (intOf i).toNat)
  case atStart => exact ⟨0, Nat.zero_le _, rfl, rfl⟩
  case round =>
    obtain ⟨j, hj, rfl, rfl⟩ := hrel
    by_cases hlt : j < ls.length
    · obtain ⟨l, hx⟩ : ∃ l, ls[j]? = some l := ⟨_, List.getElem?_eq_getElem hlt⟩
      obtain ⟨x, hc, ao, cp, rfl, _, _, _, _⟩ := HC.out j l hx
      obtain ⟨he, hle⟩ := flat_len_I ls j l hx
      rw [List.length_append] at hle
      have HE := Lib.hid he
      clear he hx
      generalize hf : (ls.take j).flatten = fl at HE hle ⊢
      clear hf
      go_wp2
      go_round
      case rel => exact ⟨j + 1, by omega, by go_num, by rw [HE.out, List.length_append]; go_num⟩
      case measure => simp [intOf]; omega
    · have hj2 : j = ls.length := by omega
      subst hj2
      rw [List.take_length]
      clear hj hlt
      generalize hN : ls.flatten.length = N at hl ⊢
      have HN := Lib.hid hN
      clear hN
      go_wp2_with (go_at_call 131; (with_reducible refine (grow_I N _ hl).mono ?_); rintro e w1 ⟨v1, rfl, hr1, hg1⟩)
      have HR1 := Lib.hid hr1
      clear hr1
      go_loopw [6, 27] (fun s i wr => ∃ j : Nat, j ≤ ls.length ∧ i = .int .i64 j ∧ Hid (RowI wr w.heap.size s (ls.take j).flatten) ∧ w.grownBy wr none) (fun _ i _ => ls.length - (intOf i).toNat)
      case atStart => exact ⟨0, Nat.zero_le _, rfl, HR1, hg1⟩
      case round =>
        obtain ⟨j, hj, rfl, hrow, gr⟩ := hrel
        by_cases hlt : j < ls.length
        · obtain ⟨l, hx⟩ : ∃ l, ls[j]? = some l := ⟨_, List.getElem?_eq_getElem hlt⟩
          obtain ⟨x, hc, hp⟩ := HC.out j l hx
          replace hc := gr.cell hc (by simp)
          obtain ⟨he, hle⟩ := flat_len_I ls j l hx
          rw [HN.out, List.length_append] at hle
          obtain ⟨v', w', hr, hs, hg⟩ := row_app_I hrow.out (Ins.keep0 hp gr) (by omega) (by omega) gr.size 24
          have hgw := gb_own gr hrow.out hg
          rw [← he] at hs
          have HS := Lib.hid hs
          have HR := Lib.hid hr
          clear hs hr he hx hle hp hg
          go_wp2_with (at_builtin; go_must (refine Lib.wpList_append_run _ rfl _ _ _ _ rfl _ _ rfl rfl _ _ HR.out ?_))
          go_roundw
          case rel => exact ⟨j + 1, by omega, by go_num, HS, hgw⟩
          case measure => simp [intOf]; omega
        · have hj2 : j = ls.length := by omega
          subst hj2
          rw [List.take_length] at hrow
          go_wp2
          go_ret
          exact ⟨_, rfl, hrow.out.sl, gr⟩
end Go.Proofs.YthhimhjegodklaaGreat.N11

