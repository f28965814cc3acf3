/-
  What Find answers of a node and a key, over this seat's translation; conditions: the node lies as it is told, and has as many of each as a machine's numbers tell.
-/
import Derived.Test.YthhimhjegodklaaGreatNn
namespace Go.Proofs.YthhimhjegodklaaGreat.N11
set_option linter.unusedSimpArgs false
set_option linter.unusedVariables false
open Go.RowKit
def hitB (cs : List Ce) (i : Nat) (key : ByteArray) : Bool := match cs[i]? with
  | some x => x.key.toList == key.toList
  | none => false
def findF (n : Nd) (key : ByteArray) : Nat × Bool := if n.leaf then (aheadF (fun c : Ce => ltS c.key key) n.cells, hitB n.cells (aheadF (fun c : Ce => ltS c.key key) n.cells) key) else (aheadF (fun k => leS k key) n.keys, true)
def FindGot (r : Nat × Bool) (w : World) (e : Ending) (w' : World) : Prop := e = .returned (.tuple #[.int .i64 (r.1 : Nat), .bool r.2]) ∧ w.grownBy w' none
theorem find1_any (b : Nat) (x key : ByteArray) (w : World) (hb : Blk w b 9 #[.string key]) :
    Calls Tryz.prog 26 #[.string x, .pointer (some ⟨b, 0, none⟩)] w fun e w' => e = .returned (.bool (leS x key)) ∧ w.grownBy w' none := by
  have c0 : w.cell? ⟨b, 0, none⟩ = some (.string key) := hb.cell 0 rfl
  clear hb
  go_enter Tryz.func26, Tryz.ntmps26
  go_wp2
  go_ret
  exact ⟨rfl, gb_refl _ _⟩
theorem find2_any (b : Nat) (x : Ce) (key : ByteArray) (w : World) (hb : Blk w b 9 #[.string key]) :
    Calls Tryz.prog 28 #[.agg #[.string x.key, .string x.val, .int .i64 x.fi, .int .i64 x.lo], .pointer (some ⟨b, 0, none⟩)] w fun e w' => e = .returned (.bool (ltS x.key key)) ∧ w.grownBy w' none := by
  have c0 : w.cell? ⟨b, 0, none⟩ = some (.string key) := hb.cell 0 rfl
  have hlt := hb.lt
  clear hb
  go_enter Tryz.func28, Tryz.ntmps28
  go_wp2
  go_ret
  exact ⟨rfl, gb_alloc _ _ _⟩
theorem enters_find1 : ∀ args w, (callFunc 26 args).run Tryz.prog w = .ok (.enter 26 args) w := enters_of Tryz.func26 (by kernel_rfl) rfl
theorem enters_find2 : ∀ args w, (callFunc 28 args).run Tryz.prog w = .ok (.enter 28 args) w := enters_of Tryz.func28 (by kernel_rfl) rfl
set_option maxRecDepth 100000 in
set_option maxHeartbeats 1000000 in
theorem find_I (a b c : Value) (ks : List ByteArray) (key : ByteArray) (w : World) (hb : Sts w b ks) (hl : ks.length ≤ 1000000000000000000) :
    Calls Tryz.prog 19 #[.agg #[.bool false, a, b, c], .string key] w (FindGot (aheadF (fun k => leS k key) ks, true) w) := by
  obtain ⟨w0, hw0, ka, kb, g0, hz⟩ := new2 w 26 #[.bool false, a, b, c] 9 #[.string key]
  have HW := Lib.hid hw0
  have HA := Lib.hid (ahead_S 26 #[.pointer (some ⟨w.heap.size + 1, 0, none⟩)] b ks (fun k => leS k key) w0 (stsKeep0 hb g0) hl enters_find1 (fun x _ W hW => find1_any (w.heap.size + 1) x key W (kb.keep0 hW)))
  clear hw0 hz hb ka kb
  unfold FindGot
  generalize aheadF (fun k => leS k key) ks = r at HA ⊢
  go_enter Tryz.func19, Tryz.ntmps19
  go_wp2_with (go_at_call 25; rw [← HW.out]; (with_reducible refine HA.out.mono ?_); rintro e w1 ⟨rfl, g1⟩)
  go_ret2
  exact ⟨rfl, gb_trans g0 g1⟩
set_option maxRecDepth 100000 in
set_option maxHeartbeats 1000000 in
theorem find_L (a b c : Value) (cs : List Ce) (key : ByteArray) (w : World) (ha : Ces w a cs) (hl : cs.length ≤ 1000000000000000000) :
    Calls Tryz.prog 19 #[.agg #[.bool true, a, b, c], .string key] w (FindGot (aheadF (fun c : Ce => ltS c.key key) cs, hitB cs (aheadF (fun c : Ce => ltS c.key key) cs) key) w) := by
  obtain ⟨w0, hw0, ka, kb, g0, hz⟩ := new2 w 26 #[.bool true, a, b, c] 9 #[.string key]
  have HW := Lib.hid hw0
  have HA := Lib.hid (ahead_C 28 #[.pointer (some ⟨w.heap.size + 1, 0, none⟩)] a cs (fun c : Ce => ltS c.key key) w0 (ha.keep0 g0) hl enters_find2 (fun x _ W hW => find2_any (w.heap.size + 1) x key W (kb.keep0 hW)))
  clear hw0 hz
  unfold FindGot
  have hle := aheadF_le (fun c : Ce => ltS c.key key) cs
  generalize aheadF (fun c : Ce => ltS c.key key) cs = r at HA hle ⊢
  obtain ⟨ao, ca, rfl, hcap, hlen, hnil, hcell⟩ := ha
  have HH := Lib.hid hcell
  have HN := Lib.hid hnil
  clear hcell hnil hlen
  by_cases hlt : r < cs.length
  · obtain ⟨x, hx⟩ : ∃ x, cs[r]? = some x := ⟨_, List.getElem?_eq_getElem hlt⟩
    have hh : hitB cs r key = (x.key.toList == key.toList) := by unfold hitB; rw [hx]
    have HHit := Lib.hid hh
    cases ao with
    | none => have := (HN.out rfl).1; omega
    | some y =>
      obtain ⟨c0, _, _, _⟩ := cat_of (fun j u h => HH.out _ rfl j u h) hx
      have C0 := Lib.hid c0
      clear hx hh c0
      generalize hitB cs r key = hb at HHit ⊢
      go_enter Tryz.func19, Tryz.ntmps19
      go_wp2_with (go_at_call 27; rw [← HW.out]; (with_reducible refine HA.out.mono ?_); rintro e w1 ⟨rfl, g1⟩; replace ka := ka.keep0 g1; replace kb := kb.keep0 g1; replace g1 := gb_trans g0 g1)
      refine wp_region_noPanic ?_
      refine wp_region_held_drew (S := fun w' => w1.grownBy w' none) (by kernel_rfl) (gb_drew _ _) (fun hHeld => ?_)
      refine wpAnyH_take (i := 0) (v := ?_) (List.getElem?_toArray.trans rfl) (by kernel_rfl) (by kernel_rfl) (by kernel_rfl) (fun _ _ _ h => h) (Or.inl ⟨by rfl, ?_⟩) hHeld ?_
      rotate_left
      · intro w' hSw; have d1 := (ka.keep0 hSw).cell 1 rfl; have d2 := (kb.keep0 hSw).cell 0 rfl; have d3 := (gb_trans g1 hSw).cell C0.out (by simp); go_simp; try with_reducible rfl
      try simp only [Act.put, List.setIfInBounds_toArray, List.set_cons_zero, List.set_cons_succ]
      refine wpAnyH_take (i := 1) (v := ?_) (List.getElem?_toArray.trans rfl) (by kernel_rfl) (by kernel_rfl) (by kernel_rfl) (fun _ _ _ h => h) (Or.inl ⟨by rfl, ?_⟩) hHeld ?_
      rotate_left
      · intro w' hSw; have d1 := (ka.keep0 hSw).cell 1 rfl; have d2 := (kb.keep0 hSw).cell 0 rfl; have d3 := (gb_trans g1 hSw).cell C0.out (by simp); go_simp; try with_reducible rfl
      try simp only [Act.put, List.setIfInBounds_toArray, List.set_cons_zero, List.set_cons_succ]
      refine wpAnyH_take (i := 2) (v := ?_) (List.getElem?_toArray.trans rfl) (by kernel_rfl) (by kernel_rfl) (by kernel_rfl) (fun _ _ _ h => h) (Or.inl ⟨by rfl, ?_⟩) hHeld ?_
      rotate_left
      · intro w' hSw; have d1 := (ka.keep0 hSw).cell 1 rfl; have d2 := (kb.keep0 hSw).cell 0 rfl; have d3 := (gb_trans g1 hSw).cell C0.out (by simp); go_simp; try with_reducible rfl
      try simp only [Act.put, List.setIfInBounds_toArray, List.set_cons_zero, List.set_cons_succ]
      refine wpAnyH_take (i := 3) (v := ?_) (List.getElem?_toArray.trans rfl) (by kernel_rfl) (by kernel_rfl) (by kernel_rfl) (fun _ _ _ h => h) (Or.inl ⟨by rfl, ?_⟩) hHeld ?_
      rotate_left
      · intro w' hSw; have d1 := (ka.keep0 hSw).cell 1 rfl; have d2 := (kb.keep0 hSw).cell 0 rfl; have d3 := (gb_trans g1 hSw).cell C0.out (by simp); go_simp; try with_reducible rfl
      try simp only [Act.put, List.setIfInBounds_toArray, List.set_cons_zero, List.set_cons_succ]
      refine wpAnyH_take (i := 4) (v := ?_) (List.getElem?_toArray.trans rfl) (by kernel_rfl) (by kernel_rfl) (by kernel_rfl) (fun _ _ _ h => h) (Or.inl ⟨by rfl, ?_⟩) hHeld ?_
      rotate_left
      · intro w' hSw; have d1 := (ka.keep0 hSw).cell 1 rfl; have d2 := (kb.keep0 hSw).cell 0 rfl; have d3 := (gb_trans g1 hSw).cell C0.out (by simp); go_simp; try with_reducible rfl
      try simp only [Act.put, List.setIfInBounds_toArray, List.set_cons_zero, List.set_cons_succ]
      refine wpAnyH_take (i := 5) (v := ?_) (List.getElem?_toArray.trans rfl) (by kernel_rfl) (by kernel_rfl) (by kernel_rfl) (fun _ _ _ h => h) (Or.inl ⟨by rfl, ?_⟩) hHeld ?_
      rotate_left
      · intro w' hSw; have d1 := (ka.keep0 hSw).cell 1 rfl; have d2 := (kb.keep0 hSw).cell 0 rfl; have d3 := (gb_trans g1 hSw).cell C0.out (by simp); go_simp; try with_reducible rfl
      try simp only [Act.put, List.setIfInBounds_toArray, List.set_cons_zero, List.set_cons_succ]
      refine wpAnyH_take (i := 6) (v := ?_) (List.getElem?_toArray.trans rfl) (by kernel_rfl) (by kernel_rfl) (by kernel_rfl) (fun _ _ _ h => h) (Or.inl ⟨by rfl, ?_⟩) hHeld ?_
      rotate_left
      · intro w' hSw; have d1 := (ka.keep0 hSw).cell 1 rfl; have d2 := (kb.keep0 hSw).cell 0 rfl; have d3 := (gb_trans g1 hSw).cell C0.out (by simp); go_simp; try with_reducible rfl
      try simp only [Act.put, List.setIfInBounds_toArray, List.set_cons_zero, List.set_cons_succ]
      refine wpAnyH_take (i := 7) (v := ?_) (List.getElem?_toArray.trans rfl) (by kernel_rfl) (by kernel_rfl) (by kernel_rfl) (fun _ _ _ h => h) (Or.inl ⟨by rfl, ?_⟩) hHeld ?_
      rotate_left
      · intro w' hSw; have d1 := (ka.keep0 hSw).cell 1 rfl; have d2 := (kb.keep0 hSw).cell 0 rfl; have d3 := (gb_trans g1 hSw).cell C0.out (by simp); go_simp; try with_reducible rfl
      try simp only [Act.put, List.setIfInBounds_toArray, List.set_cons_zero, List.set_cons_succ]
      refine wpAnyH_take (i := 8) (v := ?_) (List.getElem?_toArray.trans rfl) (by kernel_rfl) (by kernel_rfl) (by kernel_rfl) (fun _ _ _ h => h) (Or.inl ⟨by rfl, ?_⟩) hHeld ?_
      rotate_left
      · intro w' hSw; have d1 := (ka.keep0 hSw).cell 1 rfl; have d2 := (kb.keep0 hSw).cell 0 rfl; have d3 := (gb_trans g1 hSw).cell C0.out (by simp); go_simp; try with_reducible rfl
      try simp only [Act.put, List.setIfInBounds_toArray, List.set_cons_zero, List.set_cons_succ]
      refine wpAnyH_take (i := 9) (v := ?_) (List.getElem?_toArray.trans rfl) (by kernel_rfl) (by kernel_rfl) (by kernel_rfl) (fun _ _ _ h => h) (Or.inl ⟨by rfl, ?_⟩) hHeld ?_
      rotate_left
      · intro w' hSw; have d1 := (ka.keep0 hSw).cell 1 rfl; have d2 := (kb.keep0 hSw).cell 0 rfl; have d3 := (gb_trans g1 hSw).cell C0.out (by simp); go_simp; try with_reducible rfl
      try simp only [Act.put, List.setIfInBounds_toArray, List.set_cons_zero, List.set_cons_succ]
      refine wpAnyH_take (i := 10) (v := ?_) (List.getElem?_toArray.trans rfl) (by kernel_rfl) (by kernel_rfl) (by kernel_rfl) (fun _ _ _ h => h) (Or.inl ⟨by rfl, ?_⟩) hHeld ?_
      rotate_left
      · intro w' hSw; have d1 := (ka.keep0 hSw).cell 1 rfl; have d2 := (kb.keep0 hSw).cell 0 rfl; have d3 := (gb_trans g1 hSw).cell C0.out (by simp); go_simp; try with_reducible rfl
      try simp only [Act.put, List.setIfInBounds_toArray, List.set_cons_zero, List.set_cons_succ]
      refine wpAnyH_take (i := 11) (v := ?_) (List.getElem?_toArray.trans rfl) (by kernel_rfl) (by kernel_rfl) (by kernel_rfl) (fun _ _ _ h => h) (Or.inl ⟨by rfl, ?_⟩) hHeld ?_
      rotate_left
      · intro w' hSw; have d1 := (ka.keep0 hSw).cell 1 rfl; have d2 := (kb.keep0 hSw).cell 0 rfl; have d3 := (gb_trans g1 hSw).cell C0.out (by simp); go_simp; try with_reducible rfl
      try simp only [Act.put, List.setIfInBounds_toArray, List.set_cons_zero, List.set_cons_succ]
      refine wpAnyH_take (i := 12) (v := ?_) (List.getElem?_toArray.trans rfl) (by kernel_rfl) (by kernel_rfl) (by kernel_rfl) (fun _ _ _ h => h) (Or.inl ⟨by rfl, ?_⟩) hHeld ?_
      rotate_left
      · intro w' hSw; have d1 := (ka.keep0 hSw).cell 1 rfl; have d2 := (kb.keep0 hSw).cell 0 rfl; have d3 := (gb_trans g1 hSw).cell C0.out (by simp); go_simp; try with_reducible rfl
      try simp only [Act.put, List.setIfInBounds_toArray, List.set_cons_zero, List.set_cons_succ]
      refine wpAnyH_take (i := 13) (v := ?_) (List.getElem?_toArray.trans rfl) (by kernel_rfl) (by kernel_rfl) (by kernel_rfl) (fun _ _ _ h => h) (Or.inl ⟨by rfl, ?_⟩) hHeld ?_
      rotate_left
      · intro w' hSw; have d1 := (ka.keep0 hSw).cell 1 rfl; have d2 := (kb.keep0 hSw).cell 0 rfl; have d3 := (gb_trans g1 hSw).cell C0.out (by simp); go_simp; try with_reducible rfl
      try simp only [Act.put, List.setIfInBounds_toArray, List.set_cons_zero, List.set_cons_succ]
      refine wpAnyH_take (i := 14) (v := ?_) (List.getElem?_toArray.trans rfl) (by kernel_rfl) (by kernel_rfl) (by kernel_rfl) (fun _ _ _ h => h) (Or.inl ⟨by rfl, ?_⟩) hHeld ?_
      rotate_left
      · intro w' hSw; have d1 := (ka.keep0 hSw).cell 1 rfl; have d2 := (kb.keep0 hSw).cell 0 rfl; have d3 := (gb_trans g1 hSw).cell C0.out (by simp); go_simp; try with_reducible rfl
      try simp only [Act.put, List.setIfInBounds_toArray, List.set_cons_zero, List.set_cons_succ]
      refine wpAnyH_take (i := 15) (v := ?_) (List.getElem?_toArray.trans rfl) (by kernel_rfl) (by kernel_rfl) (by kernel_rfl) (fun _ _ _ h => h) (Or.inl ⟨by rfl, ?_⟩) hHeld ?_
      rotate_left
      · intro w' hSw; have d1 := (ka.keep0 hSw).cell 1 rfl; have d2 := (kb.keep0 hSw).cell 0 rfl; have d3 := (gb_trans g1 hSw).cell C0.out (by simp); go_simp; try with_reducible rfl
      try simp only [Act.put, List.setIfInBounds_toArray, List.set_cons_zero, List.set_cons_succ]
      refine wpAnyH_take (i := 16) (v := ?_) (List.getElem?_toArray.trans rfl) (by kernel_rfl) (by kernel_rfl) (by kernel_rfl) (fun _ _ _ h => h) (Or.inl ⟨by rfl, ?_⟩) hHeld ?_
      rotate_left
      · intro w' hSw; have d1 := (ka.keep0 hSw).cell 1 rfl; have d2 := (kb.keep0 hSw).cell 0 rfl; have d3 := (gb_trans g1 hSw).cell C0.out (by simp); go_simp; try with_reducible rfl
      try simp only [Act.put, List.setIfInBounds_toArray, List.set_cons_zero, List.set_cons_succ]
      refine wpAnyH_take (i := 17) (v := ?_) (List.getElem?_toArray.trans rfl) (by kernel_rfl) (by kernel_rfl) (by kernel_rfl) (fun _ _ _ h => h) (Or.inl ⟨by rfl, ?_⟩) hHeld ?_
      rotate_left
      · intro w' hSw; have d1 := (ka.keep0 hSw).cell 1 rfl; have d2 := (kb.keep0 hSw).cell 0 rfl; have d3 := (gb_trans g1 hSw).cell C0.out (by simp); go_simp; try with_reducible rfl
      try simp only [Act.put, List.setIfInBounds_toArray, List.set_cons_zero, List.set_cons_succ]
      refine wpAnyH_done (by kernel_rfl) ?_ _
      refine NoPanic.normal ?_
      go_wp2
      go_ret2
      exact ⟨by rw [HHit.out]; rfl, gb_trans g1 hHeld⟩
  · have hh : hitB cs r key = false := by unfold hitB; rw [List.getElem?_eq_none (by omega)]
    have HHit := Lib.hid hh
    clear hh
    generalize hitB cs r key = hb at HHit ⊢
    have hnlt : ¬ (r : Int) < (cs.length : Int) := by omega
    go_enter Tryz.func19, Tryz.ntmps19
    go_wp2_with (go_at_call 27; rw [← HW.out]; (with_reducible refine HA.out.mono ?_); rintro e w1 ⟨rfl, g1⟩; replace ka := ka.keep0 g1; replace g1 := gb_trans g0 g1)
    refine wp_region_noPanic ?_
    refine wp_region_held_drew (S := fun w' => w1.grownBy w' none) (by kernel_rfl) (gb_drew _ _) (fun hHeld => ?_)
    refine wpAnyH_take (i := 0) (v := ?_) (List.getElem?_toArray.trans rfl) (by kernel_rfl) (by kernel_rfl) (by kernel_rfl) (fun _ _ _ h => h) (Or.inl ⟨by rfl, ?_⟩) hHeld ?_
    rotate_left
    · intro w' hSw; have d1 := (ka.keep0 hSw).cell 1 rfl; go_simp; try with_reducible rfl
    try simp only [Act.put, List.setIfInBounds_toArray, List.set_cons_zero, List.set_cons_succ]
    refine wpAnyH_take (i := 1) (v := ?_) (List.getElem?_toArray.trans rfl) (by kernel_rfl) (by kernel_rfl) (by kernel_rfl) (fun _ _ _ h => h) (Or.inl ⟨by rfl, ?_⟩) hHeld ?_
    rotate_left
    · intro w' hSw; have d1 := (ka.keep0 hSw).cell 1 rfl; go_simp; try with_reducible rfl
    try simp only [Act.put, List.setIfInBounds_toArray, List.set_cons_zero, List.set_cons_succ]
    refine wpAnyH_take (i := 2) (v := ?_) (List.getElem?_toArray.trans rfl) (by kernel_rfl) (by kernel_rfl) (by kernel_rfl) (fun _ _ _ h => h) (Or.inl ⟨by rfl, ?_⟩) hHeld ?_
    rotate_left
    · intro w' hSw; have d1 := (ka.keep0 hSw).cell 1 rfl; go_simp; try with_reducible rfl
    try simp only [Act.put, List.setIfInBounds_toArray, List.set_cons_zero, List.set_cons_succ]
    refine wpAnyH_take (i := 3) (v := ?_) (List.getElem?_toArray.trans rfl) (by kernel_rfl) (by kernel_rfl) (by kernel_rfl) (fun _ _ _ h => h) (Or.inl ⟨by rfl, ?_⟩) hHeld ?_
    rotate_left
    · intro w' hSw; have d1 := (ka.keep0 hSw).cell 1 rfl; go_simp; try with_reducible rfl
    try simp only [Act.put, List.setIfInBounds_toArray, List.set_cons_zero, List.set_cons_succ]
    refine wpAnyH_take (i := 4) (v := ?_) (List.getElem?_toArray.trans rfl) (by kernel_rfl) (by kernel_rfl) (by kernel_rfl) (fun _ _ _ h => h) (Or.inl ⟨by rfl, ?_⟩) hHeld ?_
    rotate_left
    · intro w' hSw; have d1 := (ka.keep0 hSw).cell 1 rfl; go_simp; try with_reducible rfl
    try simp only [Act.put, List.setIfInBounds_toArray, List.set_cons_zero, List.set_cons_succ]
    refine wpAnyH_take (i := 5) (v := ?_) (List.getElem?_toArray.trans rfl) (by kernel_rfl) (by kernel_rfl) (by kernel_rfl) (fun _ _ _ h => h) (Or.inl ⟨by rfl, ?_⟩) hHeld ?_
    rotate_left
    · intro w' hSw; have d1 := (ka.keep0 hSw).cell 1 rfl; go_simp; try with_reducible rfl
    try simp only [Act.put, List.setIfInBounds_toArray, List.set_cons_zero, List.set_cons_succ]
    refine wpAnyH_take (i := 6) (v := ?_) (List.getElem?_toArray.trans rfl) (by kernel_rfl) (by kernel_rfl) (by kernel_rfl) (fun _ _ _ h => h) (Or.inl ⟨by rfl, ?_⟩) hHeld ?_
    rotate_left
    · intro w' hSw; have d1 := (ka.keep0 hSw).cell 1 rfl; go_simp; try with_reducible rfl
    try simp only [Act.put, List.setIfInBounds_toArray, List.set_cons_zero, List.set_cons_succ]
    refine wpAnyH_take (i := 7) (v := undef) (List.getElem?_toArray.trans rfl) (by kernel_rfl) (by kernel_rfl) (by kernel_rfl) (fun _ _ _ h => h) (Or.inr ⟨by rfl, rfl⟩) hHeld ?_
    try simp only [Act.put, List.setIfInBounds_toArray, List.set_cons_zero, List.set_cons_succ]
    refine wpAnyH_take (i := 8) (v := undef) (List.getElem?_toArray.trans rfl) (by kernel_rfl) (by kernel_rfl) (by kernel_rfl) (fun _ _ _ h => h) (Or.inr ⟨by rfl, rfl⟩) hHeld ?_
    try simp only [Act.put, List.setIfInBounds_toArray, List.set_cons_zero, List.set_cons_succ]
    refine wpAnyH_take (i := 9) (v := undef) (List.getElem?_toArray.trans rfl) (by kernel_rfl) (by kernel_rfl) (by kernel_rfl) (fun _ _ _ h => h) (Or.inr ⟨by rfl, rfl⟩) hHeld ?_
    try simp only [Act.put, List.setIfInBounds_toArray, List.set_cons_zero, List.set_cons_succ]
    refine wpAnyH_take (i := 10) (v := undef) (List.getElem?_toArray.trans rfl) (by kernel_rfl) (by kernel_rfl) (by kernel_rfl) (fun _ _ _ h => h) (Or.inr ⟨by rfl, rfl⟩) hHeld ?_
    try simp only [Act.put, List.setIfInBounds_toArray, List.set_cons_zero, List.set_cons_succ]
    refine wpAnyH_take (i := 11) (v := undef) (List.getElem?_toArray.trans rfl) (by kernel_rfl) (by kernel_rfl) (by kernel_rfl) (fun _ _ _ h => h) (Or.inr ⟨by rfl, rfl⟩) hHeld ?_
    try simp only [Act.put, List.setIfInBounds_toArray, List.set_cons_zero, List.set_cons_succ]
    refine wpAnyH_take (i := 12) (v := undef) (List.getElem?_toArray.trans rfl) (by kernel_rfl) (by kernel_rfl) (by kernel_rfl) (fun _ _ _ h => h) (Or.inr ⟨by rfl, rfl⟩) hHeld ?_
    try simp only [Act.put, List.setIfInBounds_toArray, List.set_cons_zero, List.set_cons_succ]
    refine wpAnyH_take (i := 13) (v := undef) (List.getElem?_toArray.trans rfl) (by kernel_rfl) (by kernel_rfl) (by kernel_rfl) (fun _ _ _ h => h) (Or.inr ⟨by rfl, rfl⟩) hHeld ?_
    try simp only [Act.put, List.setIfInBounds_toArray, List.set_cons_zero, List.set_cons_succ]
    refine wpAnyH_take (i := 14) (v := undef) (List.getElem?_toArray.trans rfl) (by kernel_rfl) (by kernel_rfl) (by kernel_rfl) (fun _ _ _ h => h) (Or.inr ⟨by rfl, rfl⟩) hHeld ?_
    try simp only [Act.put, List.setIfInBounds_toArray, List.set_cons_zero, List.set_cons_succ]
    refine wpAnyH_take (i := 15) (v := ?_) (List.getElem?_toArray.trans rfl) (by kernel_rfl) (by kernel_rfl) (by kernel_rfl) (fun _ _ _ h => h) (Or.inl ⟨by rfl, ?_⟩) hHeld ?_
    rotate_left
    · intro w' hSw; have d1 := (ka.keep0 hSw).cell 1 rfl; go_simp; try with_reducible rfl
    try simp only [Act.put, List.setIfInBounds_toArray, List.set_cons_zero, List.set_cons_succ]
    refine wpAnyH_take (i := 16) (v := ?_) (List.getElem?_toArray.trans rfl) (by kernel_rfl) (by kernel_rfl) (by kernel_rfl) (fun _ _ _ h => h) (Or.inl ⟨by rfl, ?_⟩) hHeld ?_
    rotate_left
    · intro w' hSw; have d1 := (ka.keep0 hSw).cell 1 rfl; go_simp; try with_reducible rfl
    try simp only [Act.put, List.setIfInBounds_toArray, List.set_cons_zero, List.set_cons_succ]
    refine wpAnyH_take (i := 17) (v := ?_) (List.getElem?_toArray.trans rfl) (by kernel_rfl) (by kernel_rfl) (by kernel_rfl) (fun _ _ _ h => h) (Or.inl ⟨by rfl, ?_⟩) hHeld ?_
    rotate_left
    · intro w' hSw; have d1 := (ka.keep0 hSw).cell 1 rfl; go_simp; try with_reducible rfl
    try simp only [Act.put, List.setIfInBounds_toArray, List.set_cons_zero, List.set_cons_succ]
    refine wpAnyH_done (by kernel_rfl) ?_ _
    refine NoPanic.normal ?_
    go_wp2
    go_ret2
    exact ⟨by rw [HHit.out]; rfl, gb_trans g1 hHeld⟩
theorem find_any (v : Value) (n : Nd) (key : ByteArray) (w : World) (h : NdV w v n) (ho : n.Half) : Calls Tryz.prog 19 #[v, .string key] w (FindGot (findF n key) w) := by
  obtain ⟨a, b, c, rfl, ha, hb, hc⟩ := h
  have := ho.cells; have := ho.keys
  rcases hl : n.leaf with _ | _
  · have e : findF n key = (aheadF (fun k => leS k key) n.keys, true) := by unfold findF; rw [if_neg (by rw [hl]; simp)]
    rw [e]; exact find_I a b c n.keys key w hb (by omega)
  · have e : findF n key = (aheadF (fun c : Ce => ltS c.key key) n.cells, hitB n.cells (aheadF (fun c : Ce => ltS c.key key) n.cells) key) := by unfold findF; rw [if_pos hl]
    rw [e]; exact find_L a b c n.cells key w ha (by omega)
end Go.Proofs.YthhimhjegodklaaGreat.N11

