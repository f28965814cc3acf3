/-
  What the call of a reading for the whole node answers and leaves (node), over this seat's translation: what plain mathematics reads, or it gives up; conditions: the reading lies as it is told, its text is no longer than a machine's numbers tell.
-/
import Derived.Test.YthhimhjegodklaaGreatNv
namespace Go.Proofs.YthhimhjegodklaaGreat.N11
set_option linter.unusedSimpArgs false
set_option linter.unusedVariables false
open Go.RowKit
theorem RG.set2 {w : World} {b g : Nat} {s : ByteArray} {l : List UInt8} (h : RG w b g s l) (z : Int) : RG (w.setCell ⟨g, 2, none⟩ (.int .i64 z)) b g s l := by
  obtain ⟨p, bg, hr, hp, hd, hb, hne⟩ := h
  exact ⟨p, z, hr.keep (gb_set w g 2 none _) (ne_some hne), hp, hd, hb.set 2 _, hne⟩
theorem RG.c2 {w : World} {b g : Nat} {s : ByteArray} {l : List UInt8} (h : RG w b g s l) : ∃ bg : Int, w.cell? ⟨g, 2, none⟩ = some (.int .i64 bg) ∧ w.frozen? ⟨g, 2, none⟩ = false := by
  obtain ⟨p, bg, _, _, _, hb, _⟩ := h
  exact ⟨bg, hb.cell 2 rfl, hb.free 2⟩
theorem num8_at (b g : Nat) (s : ByteArray) (c : UInt8) (z : Int) (hz : (c.toNat : Int) = z) (r : List UInt8) (w : World) (h : RG w b g s (c :: r)) (hs : s.size ≤ 9223372036854775807) : Calls Tryz.prog 45 #[.pointer (some ⟨b, 0, none⟩)] w (ReadGot (.int .u8 z) b g s r w) := by
  subst hz; exact num8_got b g s c r w h hs
def WholeR (b g : Nat) (s : ByteArray) (w : World) : Option Nd → Ending → World → Prop
  | some n => fun e w' => ∃ v, e = .returned v ∧ NdV w' v n ∧ Kq b g w w'
  | none => GaveUp b g s w
theorem bodyG {b g : Nat} {s : ByteArray} {w w' : World} {o : Option Nd} {tmps : Array Value} {v : Value} {l : List UInt8} (ho : o = none) (hw : Wrong v) (h : RG w' b g s l) (hk : Kq b g w w') : bodyPost Tryz.prog Tryz.f35 (WholeR b g s w o) (.panic [pan v false]) ⟨tmps, []⟩ w' := by
  subst ho; exact ⟨rfl, v, l, rfl, hw, h, hk⟩
set_option maxRecDepth 100000 in
set_option maxHeartbeats 2000000 in
theorem node_any (b g : Nat) (s : ByteArray) (w : World) (h : RG w b g s s.data.toList) (hs : s.size ≤ 9223372036854775807) : Calls Tryz.prog 35 #[.pointer (some ⟨g, 0, none⟩)] w (WholeR b g s w (getF s.data.toList)) := by
  obtain ⟨w0, hw0, kR, g0, hz0⟩ := new1 w 26 #[.bool false, .slice none 0 0, .slice none 0 0, .slice none 0 0]
  have HW := Lib.hid hw0
  have hgb : b < w.heap.size := h.ltb
  have hgg : g < w.heap.size := h.ltg
  have hne3 : w.heap.size ≠ b := by omega
  have hne4 : w.heap.size ≠ g := by omega
  have H0 := Lib.hid (h.keep0 g0)
  have K0 : Hid (Kq b g w w0) := Lib.hid (Kq.of0 g0)
  have c0 := (h.keep0 g0).c0
  have c1 := (h.keep0 g0).c1
  have c0' := h.c0
  have c1' := h.c1
  have hsl := size_list s
  have HG : Hid (getF s.data.toList = if 240 < s.data.toList.length then none else match s.data.toList with
    | m :: c :: r => if c.toNat = 0 then none else if m.toNat = 1 then endR (leafR c.toNat r) else if m.toNat = 2 then endR (innerR c.toNat r) else none
    | _ => none) := Lib.hid rfl
  rw [hsl] at HG
  clear hw0 g0 hz0 h hsl
  by_cases hbig : 240 < s.size
  · have hq : decide ((s.size : Int) ≤ 240) = false := by simp; omega
    have HQ := HG.out
    rw [if_pos hbig] at HQ
    have HQ2 := Lib.hid HQ
    clear HQ HG hbig
    go_enter Tryz.func35, Tryz.ntmps35
    go_wp2_with (go_at_call 43; rw [← HW.out]; (with_reducible refine (must_no _ _).mono ?_); rintro e wm ⟨rfl, rfl⟩)
    rw [HQ2.out]
    exact ⟨rfl, _, _, rfl, .inr ⟨_, rfl⟩, H0.out, K0.out⟩
  have hq : decide ((s.size : Int) ≤ 240) = true := by simp; omega
  have HG2 := HG.out
  rw [if_neg hbig] at HG2
  have HG3 := Lib.hid HG2
  clear HG2 HG hbig
  generalize s.data.toList = l at H0 HG3 ⊢
  generalize getF l = gl at HG3 ⊢
  cases l with
  | nil =>
    have HQ : Hid (gl = none) := Lib.hid HG3.out
    clear HG3
    go_enter Tryz.func35, Tryz.ntmps35
    go_wp2_with (go_at_call 43; rw [← HW.out]; (with_reducible refine (must_ok _ _).mono ?_); rintro e wm ⟨rfl, rfl⟩)
    refine wp_region_held_drew (S := fun w' => w'.cell? ⟨g, 0, none⟩ = some (.pointer (some ⟨b, 0, none⟩))) (by kernel_rfl) (H0.out.keep0 (gb_drew w0 none)).c0 (fun hHeld => ?_)
    refine wpAnyH_take (i := 0) (v := ?_) (List.getElem?_toArray.trans rfl) (by kernel_rfl) (by kernel_rfl) (by kernel_rfl) (fun _ _ _ h => h) (Or.inl ⟨by rfl, ?_⟩) hHeld ?_
    rotate_left
    · intro w' hSw; have c0 := hSw; go_simp; try with_reducible rfl
    try simp only [Act.put, List.setIfInBounds_toArray, List.set_cons_zero, List.set_cons_succ]
    refine wpAnyH_take (i := 1) (v := ?_) (List.getElem?_toArray.trans rfl) (by kernel_rfl) (by kernel_rfl) (by kernel_rfl) (fun _ _ _ h => h) (Or.inl ⟨by rfl, ?_⟩) hHeld ?_
    rotate_left
    · intro w' hSw; have c0 := hSw; go_simp; try with_reducible rfl
    try simp only [Act.put, List.setIfInBounds_toArray, List.set_cons_zero, List.set_cons_succ]
    refine wpAnyH_take (i := 2) (v := ?_) (List.getElem?_toArray.trans rfl) (by kernel_rfl) (by kernel_rfl) (by kernel_rfl) (fun _ _ _ h => h) (Or.inl ⟨by rfl, ?_⟩) hHeld ?_
    rotate_left
    · intro w' hSw; have c0 := hSw; go_simp; try with_reducible rfl
    try simp only [Act.put, List.setIfInBounds_toArray, List.set_cons_zero, List.set_cons_succ]
    refine wpAnyH_take (i := 3) (v := ?_) (List.getElem?_toArray.trans rfl) (by kernel_rfl) (by kernel_rfl) (by kernel_rfl) (fun _ _ _ h => h) (Or.inl ⟨by rfl, ?_⟩) hHeld ?_
    rotate_left
    · intro w' hSw; have c0 := hSw; go_simp; try with_reducible rfl
    try simp only [Act.put, List.setIfInBounds_toArray, List.set_cons_zero, List.set_cons_succ]
    refine wpAnyH_take (i := 8) (v := ?_) (List.getElem?_toArray.trans rfl) (by kernel_rfl) (by kernel_rfl) (by kernel_rfl) (fun _ _ _ h => h) (Or.inl ⟨by rfl, ?_⟩) hHeld ?_
    rotate_left
    · intro w' hSw; have c0 := hSw; go_simp; try with_reducible rfl
    try simp only [Act.put, List.setIfInBounds_toArray, List.set_cons_zero, List.set_cons_succ]
    refine wpAnyH_take (i := 9) (v := ?_) (List.getElem?_toArray.trans rfl) (by kernel_rfl) (by kernel_rfl) (by kernel_rfl) (fun _ _ _ h => h) (Or.inl ⟨by rfl, ?_⟩) hHeld ?_
    rotate_left
    · intro w' hSw; have c0 := hSw; go_simp; try with_reducible rfl
    try simp only [Act.put, List.setIfInBounds_toArray, List.set_cons_zero, List.set_cons_succ]
    refine wpAnyH_take (i := 10) (v := ?_) (List.getElem?_toArray.trans rfl) (by kernel_rfl) (by kernel_rfl) (by kernel_rfl) (fun _ _ _ h => h) (Or.inl ⟨by rfl, ?_⟩) hHeld ?_
    rotate_left
    · intro w' hSw; have c0 := hSw; go_simp; try with_reducible rfl
    try simp only [Act.put, List.setIfInBounds_toArray, List.set_cons_zero, List.set_cons_succ]
    refine wpAnyH_take (i := 11) (v := ?_) (List.getElem?_toArray.trans rfl) (by kernel_rfl) (by kernel_rfl) (by kernel_rfl) (fun _ _ _ h => h) (Or.inl ⟨by rfl, ?_⟩) hHeld ?_
    rotate_left
    · intro w' hSw; have c0 := hSw; go_simp; try with_reducible rfl
    try simp only [Act.put, List.setIfInBounds_toArray, List.set_cons_zero, List.set_cons_succ]
    refine wpAnyH_ready (rs := [4]) (by kernel_rfl) (by simp) ?_
    refine AllReadyH.cons (List.getElem?_toArray.trans rfl) (fun K hK => ?_) AllReadyH.nil
    go_simp
    go_at_call 45
    (with_reducible refine (num8_not b g s _ (H0.out.keep0 (gb_drew w0 none)) hs).mono ?_)
    rintro e w2 ⟨a2, rfl, h2, k2⟩
    replace k2 := (Kq.of0 (gb_drew w0 none)).trans k2
    refine hK.out _ _ (h2.c0) (fun hHeld => ?_)
    clear hK K
    try simp only [Act.put, List.setIfInBounds_toArray, List.set_cons_zero, List.set_cons_succ]
    refine wpAnyH_take (i := 5) (v := ?_) (List.getElem?_toArray.trans rfl) (by kernel_rfl) (by kernel_rfl) (by kernel_rfl) (fun _ _ _ h => h) (Or.inl ⟨by rfl, ?_⟩) hHeld ?_
    rotate_left
    · intro w' hSw; have c0 := hSw; go_simp; try with_reducible rfl
    try simp only [Act.put, List.setIfInBounds_toArray, List.set_cons_zero, List.set_cons_succ]
    refine wpAnyH_take (i := 6) (v := ?_) (List.getElem?_toArray.trans rfl) (by kernel_rfl) (by kernel_rfl) (by kernel_rfl) (fun _ _ _ h => h) (Or.inl ⟨by rfl, ?_⟩) hHeld ?_
    rotate_left
    · intro w' hSw; have c0 := hSw; go_simp; try with_reducible rfl
    try simp only [Act.put, List.setIfInBounds_toArray, List.set_cons_zero, List.set_cons_succ]
    refine wpAnyH_ready (rs := [7]) (by kernel_rfl) (by simp) ?_
    refine AllReadyH.cons (List.getElem?_toArray.trans rfl) (fun K hK => ?_) AllReadyH.nil
    go_simp
    go_at_call 44
    (with_reducible refine (taken_u8_no _ _ _).mono ?_)
    rintro e wt ⟨rfl, rfl⟩
    exact bodyG HQ.out (.inl ⟨_, rfl⟩) h2 (K0.out.trans k2)
  | cons m t =>
    obtain ⟨zm, hzm⟩ : ∃ z : Int, (m.toNat : Int) = z := ⟨_, rfl⟩
    cases t with
    | nil =>
      have HQ : Hid (gl = none) := Lib.hid HG3.out
      clear HG3
      go_enter Tryz.func35, Tryz.ntmps35
      go_wp2_with (go_at_call 43; rw [← HW.out]; (with_reducible refine (must_ok _ _).mono ?_); rintro e wm ⟨rfl, rfl⟩)
      refine wp_region_held_drew (S := fun w' => w'.cell? ⟨g, 0, none⟩ = some (.pointer (some ⟨b, 0, none⟩))) (by kernel_rfl) (H0.out.keep0 (gb_drew w0 none)).c0 (fun hHeld => ?_)
      refine wpAnyH_take (i := 0) (v := ?_) (List.getElem?_toArray.trans rfl) (by kernel_rfl) (by kernel_rfl) (by kernel_rfl) (fun _ _ _ h => h) (Or.inl ⟨by rfl, ?_⟩) hHeld ?_
      rotate_left
      · intro w' hSw; have c0 := hSw; go_simp; try with_reducible rfl
      try simp only [Act.put, List.setIfInBounds_toArray, List.set_cons_zero, List.set_cons_succ]
      refine wpAnyH_take (i := 1) (v := ?_) (List.getElem?_toArray.trans rfl) (by kernel_rfl) (by kernel_rfl) (by kernel_rfl) (fun _ _ _ h => h) (Or.inl ⟨by rfl, ?_⟩) hHeld ?_
      rotate_left
      · intro w' hSw; have c0 := hSw; go_simp; try with_reducible rfl
      try simp only [Act.put, List.setIfInBounds_toArray, List.set_cons_zero, List.set_cons_succ]
      refine wpAnyH_take (i := 2) (v := ?_) (List.getElem?_toArray.trans rfl) (by kernel_rfl) (by kernel_rfl) (by kernel_rfl) (fun _ _ _ h => h) (Or.inl ⟨by rfl, ?_⟩) hHeld ?_
      rotate_left
      · intro w' hSw; have c0 := hSw; go_simp; try with_reducible rfl
      try simp only [Act.put, List.setIfInBounds_toArray, List.set_cons_zero, List.set_cons_succ]
      refine wpAnyH_take (i := 3) (v := ?_) (List.getElem?_toArray.trans rfl) (by kernel_rfl) (by kernel_rfl) (by kernel_rfl) (fun _ _ _ h => h) (Or.inl ⟨by rfl, ?_⟩) hHeld ?_
      rotate_left
      · intro w' hSw; have c0 := hSw; go_simp; try with_reducible rfl
      try simp only [Act.put, List.setIfInBounds_toArray, List.set_cons_zero, List.set_cons_succ]
      refine wpAnyH_take (i := 8) (v := ?_) (List.getElem?_toArray.trans rfl) (by kernel_rfl) (by kernel_rfl) (by kernel_rfl) (fun _ _ _ h => h) (Or.inl ⟨by rfl, ?_⟩) hHeld ?_
      rotate_left
      · intro w' hSw; have c0 := hSw; go_simp; try with_reducible rfl
      try simp only [Act.put, List.setIfInBounds_toArray, List.set_cons_zero, List.set_cons_succ]
      refine wpAnyH_take (i := 9) (v := ?_) (List.getElem?_toArray.trans rfl) (by kernel_rfl) (by kernel_rfl) (by kernel_rfl) (fun _ _ _ h => h) (Or.inl ⟨by rfl, ?_⟩) hHeld ?_
      rotate_left
      · intro w' hSw; have c0 := hSw; go_simp; try with_reducible rfl
      try simp only [Act.put, List.setIfInBounds_toArray, List.set_cons_zero, List.set_cons_succ]
      refine wpAnyH_take (i := 10) (v := ?_) (List.getElem?_toArray.trans rfl) (by kernel_rfl) (by kernel_rfl) (by kernel_rfl) (fun _ _ _ h => h) (Or.inl ⟨by rfl, ?_⟩) hHeld ?_
      rotate_left
      · intro w' hSw; have c0 := hSw; go_simp; try with_reducible rfl
      try simp only [Act.put, List.setIfInBounds_toArray, List.set_cons_zero, List.set_cons_succ]
      refine wpAnyH_take (i := 11) (v := ?_) (List.getElem?_toArray.trans rfl) (by kernel_rfl) (by kernel_rfl) (by kernel_rfl) (fun _ _ _ h => h) (Or.inl ⟨by rfl, ?_⟩) hHeld ?_
      rotate_left
      · intro w' hSw; have c0 := hSw; go_simp; try with_reducible rfl
      try simp only [Act.put, List.setIfInBounds_toArray, List.set_cons_zero, List.set_cons_succ]
      refine wpAnyH_ready (rs := [4]) (by kernel_rfl) (by simp) ?_
      refine AllReadyH.cons (List.getElem?_toArray.trans rfl) (fun K hK => ?_) AllReadyH.nil
      go_simp
      go_at_call 45
      (with_reducible refine (num8_at b g s m _ hzm [] _ (H0.out.keep0 (gb_drew w0 none)) hs).mono ?_)
      rintro e w2 ⟨rfl, h2, k2⟩
      replace k2 := (Kq.of0 (gb_drew w0 none)).trans k2
      refine hK.out _ _ (h2.c0) (fun hHeld => ?_)
      clear hK K
      try simp only [Act.put, List.setIfInBounds_toArray, List.set_cons_zero, List.set_cons_succ]
      refine wpAnyH_take (i := 5) (v := ?_) (List.getElem?_toArray.trans rfl) (by kernel_rfl) (by kernel_rfl) (by kernel_rfl) (fun _ _ _ h => h) (Or.inl ⟨by rfl, ?_⟩) hHeld ?_
      rotate_left
      · intro w' hSw; have c0 := hSw; go_simp; try with_reducible rfl
      try simp only [Act.put, List.setIfInBounds_toArray, List.set_cons_zero, List.set_cons_succ]
      refine wpAnyH_take (i := 6) (v := ?_) (List.getElem?_toArray.trans rfl) (by kernel_rfl) (by kernel_rfl) (by kernel_rfl) (fun _ _ _ h => h) (Or.inl ⟨by rfl, ?_⟩) hHeld ?_
      rotate_left
      · intro w' hSw; have c0 := hSw; go_simp; try with_reducible rfl
      try simp only [Act.put, List.setIfInBounds_toArray, List.set_cons_zero, List.set_cons_succ]
      refine wpAnyH_ready (rs := [7]) (by kernel_rfl) (by simp) ?_
      refine AllReadyH.cons (List.getElem?_toArray.trans rfl) (fun K hK => ?_) AllReadyH.nil
      go_simp
      go_at_call 44
      (with_reducible refine (taken_u8 _ _).mono ?_)
      rintro e wt ⟨rfl, rfl⟩
      refine hK.out _ _ (h2.c0) (fun hHeld => ?_)
      clear hK K
      try simp only [Act.put, List.setIfInBounds_toArray, List.set_cons_zero, List.set_cons_succ]
      refine wpAnyH_ready (rs := [12]) (by kernel_rfl) (by simp) ?_
      refine AllReadyH.cons (List.getElem?_toArray.trans rfl) (fun K hK => ?_) AllReadyH.nil
      go_simp
      go_at_call 45
      (with_reducible refine (num8_not b g s _ h2 hs).mono ?_)
      rintro e w3 ⟨a3, rfl, h3, k3⟩
      refine hK.out _ _ (h3.c0) (fun hHeld => ?_)
      clear hK K
      try simp only [Act.put, List.setIfInBounds_toArray, List.set_cons_zero, List.set_cons_succ]
      refine wpAnyH_take (i := 13) (v := ?_) (List.getElem?_toArray.trans rfl) (by kernel_rfl) (by kernel_rfl) (by kernel_rfl) (fun _ _ _ h => h) (Or.inl ⟨by rfl, ?_⟩) hHeld ?_
      rotate_left
      · intro w' hSw; have c0 := hSw; go_simp; try with_reducible rfl
      try simp only [Act.put, List.setIfInBounds_toArray, List.set_cons_zero, List.set_cons_succ]
      refine wpAnyH_take (i := 14) (v := ?_) (List.getElem?_toArray.trans rfl) (by kernel_rfl) (by kernel_rfl) (by kernel_rfl) (fun _ _ _ h => h) (Or.inl ⟨by rfl, ?_⟩) hHeld ?_
      rotate_left
      · intro w' hSw; have c0 := hSw; go_simp; try with_reducible rfl
      try simp only [Act.put, List.setIfInBounds_toArray, List.set_cons_zero, List.set_cons_succ]
      refine wpAnyH_ready (rs := [15]) (by kernel_rfl) (by simp) ?_
      refine AllReadyH.cons (List.getElem?_toArray.trans rfl) (fun K hK => ?_) AllReadyH.nil
      go_simp
      go_at_call 44
      (with_reducible refine (taken_u8_no _ _ _).mono ?_)
      rintro e wt ⟨rfl, rfl⟩
      exact bodyG HQ.out (.inl ⟨_, rfl⟩) h3 (K0.out.trans (k2.trans k3))
    | cons c r =>
      obtain ⟨zc, hzc⟩ : ∃ z : Int, (c.toNat : Int) = z := ⟨_, rfl⟩
      have HG4 : Hid (gl = if c.toNat = 0 then none else if m.toNat = 1 then endR (leafR c.toNat r) else if m.toNat = 2 then endR (innerR c.toNat r) else none) := HG3
      clear HG3
      have hcb := c.toNat_lt
      by_cases h1 : m.toNat = 1
      rotate_left
      · by_cases h2 : m.toNat = 2
        rotate_left
        · have z1 : (zm == 1) = false := by simp; omega
          have z2 : (zm == 2) = false := by simp; omega
          have HQ : Hid (gl = none) := Lib.hid (by rw [HG4.out, if_neg h1, if_neg h2]; split <;> rfl)
          clear h1 h2 HG4
          go_enter Tryz.func35, Tryz.ntmps35
          go_wp2_with (go_at_call 43; rw [← HW.out]; (with_reducible refine (must_ok _ _).mono ?_); rintro e wm ⟨rfl, rfl⟩)
          refine wp_region_held_drew (S := fun w' => w'.cell? ⟨g, 0, none⟩ = some (.pointer (some ⟨b, 0, none⟩))) (by kernel_rfl) (H0.out.keep0 (gb_drew w0 none)).c0 (fun hHeld => ?_)
          refine wpAnyH_take (i := 0) (v := ?_) (List.getElem?_toArray.trans rfl) (by kernel_rfl) (by kernel_rfl) (by kernel_rfl) (fun _ _ _ h => h) (Or.inl ⟨by rfl, ?_⟩) hHeld ?_
          rotate_left
          · intro w' hSw; have c0 := hSw; go_simp; try with_reducible rfl
          try simp only [Act.put, List.setIfInBounds_toArray, List.set_cons_zero, List.set_cons_succ]
          refine wpAnyH_take (i := 1) (v := ?_) (List.getElem?_toArray.trans rfl) (by kernel_rfl) (by kernel_rfl) (by kernel_rfl) (fun _ _ _ h => h) (Or.inl ⟨by rfl, ?_⟩) hHeld ?_
          rotate_left
          · intro w' hSw; have c0 := hSw; go_simp; try with_reducible rfl
          try simp only [Act.put, List.setIfInBounds_toArray, List.set_cons_zero, List.set_cons_succ]
          refine wpAnyH_take (i := 2) (v := ?_) (List.getElem?_toArray.trans rfl) (by kernel_rfl) (by kernel_rfl) (by kernel_rfl) (fun _ _ _ h => h) (Or.inl ⟨by rfl, ?_⟩) hHeld ?_
          rotate_left
          · intro w' hSw; have c0 := hSw; go_simp; try with_reducible rfl
          try simp only [Act.put, List.setIfInBounds_toArray, List.set_cons_zero, List.set_cons_succ]
          refine wpAnyH_take (i := 3) (v := ?_) (List.getElem?_toArray.trans rfl) (by kernel_rfl) (by kernel_rfl) (by kernel_rfl) (fun _ _ _ h => h) (Or.inl ⟨by rfl, ?_⟩) hHeld ?_
          rotate_left
          · intro w' hSw; have c0 := hSw; go_simp; try with_reducible rfl
          try simp only [Act.put, List.setIfInBounds_toArray, List.set_cons_zero, List.set_cons_succ]
          refine wpAnyH_take (i := 8) (v := ?_) (List.getElem?_toArray.trans rfl) (by kernel_rfl) (by kernel_rfl) (by kernel_rfl) (fun _ _ _ h => h) (Or.inl ⟨by rfl, ?_⟩) hHeld ?_
          rotate_left
          · intro w' hSw; have c0 := hSw; go_simp; try with_reducible rfl
          try simp only [Act.put, List.setIfInBounds_toArray, List.set_cons_zero, List.set_cons_succ]
          refine wpAnyH_take (i := 9) (v := ?_) (List.getElem?_toArray.trans rfl) (by kernel_rfl) (by kernel_rfl) (by kernel_rfl) (fun _ _ _ h => h) (Or.inl ⟨by rfl, ?_⟩) hHeld ?_
          rotate_left
          · intro w' hSw; have c0 := hSw; go_simp; try with_reducible rfl
          try simp only [Act.put, List.setIfInBounds_toArray, List.set_cons_zero, List.set_cons_succ]
          refine wpAnyH_take (i := 10) (v := ?_) (List.getElem?_toArray.trans rfl) (by kernel_rfl) (by kernel_rfl) (by kernel_rfl) (fun _ _ _ h => h) (Or.inl ⟨by rfl, ?_⟩) hHeld ?_
          rotate_left
          · intro w' hSw; have c0 := hSw; go_simp; try with_reducible rfl
          try simp only [Act.put, List.setIfInBounds_toArray, List.set_cons_zero, List.set_cons_succ]
          refine wpAnyH_take (i := 11) (v := ?_) (List.getElem?_toArray.trans rfl) (by kernel_rfl) (by kernel_rfl) (by kernel_rfl) (fun _ _ _ h => h) (Or.inl ⟨by rfl, ?_⟩) hHeld ?_
          rotate_left
          · intro w' hSw; have c0 := hSw; go_simp; try with_reducible rfl
          try simp only [Act.put, List.setIfInBounds_toArray, List.set_cons_zero, List.set_cons_succ]
          refine wpAnyH_ready (rs := [4]) (by kernel_rfl) (by simp) ?_
          refine AllReadyH.cons (List.getElem?_toArray.trans rfl) (fun K hK => ?_) AllReadyH.nil
          go_simp
          go_at_call 45
          (with_reducible refine (num8_at b g s m _ hzm (c :: r) _ (H0.out.keep0 (gb_drew w0 none)) hs).mono ?_)
          rintro e w2 ⟨rfl, h2, k2⟩
          replace k2 := (Kq.of0 (gb_drew w0 none)).trans k2
          refine hK.out _ _ (h2.c0) (fun hHeld => ?_)
          clear hK K
          try simp only [Act.put, List.setIfInBounds_toArray, List.set_cons_zero, List.set_cons_succ]
          refine wpAnyH_take (i := 5) (v := ?_) (List.getElem?_toArray.trans rfl) (by kernel_rfl) (by kernel_rfl) (by kernel_rfl) (fun _ _ _ h => h) (Or.inl ⟨by rfl, ?_⟩) hHeld ?_
          rotate_left
          · intro w' hSw; have c0 := hSw; go_simp; try with_reducible rfl
          try simp only [Act.put, List.setIfInBounds_toArray, List.set_cons_zero, List.set_cons_succ]
          refine wpAnyH_take (i := 6) (v := ?_) (List.getElem?_toArray.trans rfl) (by kernel_rfl) (by kernel_rfl) (by kernel_rfl) (fun _ _ _ h => h) (Or.inl ⟨by rfl, ?_⟩) hHeld ?_
          rotate_left
          · intro w' hSw; have c0 := hSw; go_simp; try with_reducible rfl
          try simp only [Act.put, List.setIfInBounds_toArray, List.set_cons_zero, List.set_cons_succ]
          refine wpAnyH_ready (rs := [7]) (by kernel_rfl) (by simp) ?_
          refine AllReadyH.cons (List.getElem?_toArray.trans rfl) (fun K hK => ?_) AllReadyH.nil
          go_simp
          go_at_call 44
          (with_reducible refine (taken_u8 _ _).mono ?_)
          rintro e wt ⟨rfl, rfl⟩
          refine hK.out _ _ (h2.c0) (fun hHeld => ?_)
          clear hK K
          try simp only [Act.put, List.setIfInBounds_toArray, List.set_cons_zero, List.set_cons_succ]
          refine wpAnyH_ready (rs := [12]) (by kernel_rfl) (by simp) ?_
          refine AllReadyH.cons (List.getElem?_toArray.trans rfl) (fun K hK => ?_) AllReadyH.nil
          go_simp
          go_at_call 45
          (with_reducible refine (num8_at b g s c _ hzc r _ h2 hs).mono ?_)
          rintro e w3 ⟨rfl, h3, k3⟩
          refine hK.out _ _ (h3.c0) (fun hHeld => ?_)
          clear hK K
          try simp only [Act.put, List.setIfInBounds_toArray, List.set_cons_zero, List.set_cons_succ]
          refine wpAnyH_take (i := 13) (v := ?_) (List.getElem?_toArray.trans rfl) (by kernel_rfl) (by kernel_rfl) (by kernel_rfl) (fun _ _ _ h => h) (Or.inl ⟨by rfl, ?_⟩) hHeld ?_
          rotate_left
          · intro w' hSw; have c0 := hSw; go_simp; try with_reducible rfl
          try simp only [Act.put, List.setIfInBounds_toArray, List.set_cons_zero, List.set_cons_succ]
          refine wpAnyH_take (i := 14) (v := ?_) (List.getElem?_toArray.trans rfl) (by kernel_rfl) (by kernel_rfl) (by kernel_rfl) (fun _ _ _ h => h) (Or.inl ⟨by rfl, ?_⟩) hHeld ?_
          rotate_left
          · intro w' hSw; have c0 := hSw; go_simp; try with_reducible rfl
          try simp only [Act.put, List.setIfInBounds_toArray, List.set_cons_zero, List.set_cons_succ]
          refine wpAnyH_ready (rs := [15]) (by kernel_rfl) (by simp) ?_
          refine AllReadyH.cons (List.getElem?_toArray.trans rfl) (fun K hK => ?_) AllReadyH.nil
          go_simp
          go_at_call 44
          (with_reducible refine (taken_u8 _ _).mono ?_)
          rintro e wt ⟨rfl, rfl⟩
          refine hK.out _ _ (h3.c0) (fun hHeld => ?_)
          clear hK K
          try simp only [Act.put, List.setIfInBounds_toArray, List.set_cons_zero, List.set_cons_succ]
          refine wpAnyH_take (i := 16) (v := ?_) (List.getElem?_toArray.trans rfl) (by kernel_rfl) (by kernel_rfl) (by kernel_rfl) (fun _ _ _ h => h) (Or.inl ⟨by rfl, ?_⟩) hHeld ?_
          rotate_left
          · intro w' hSw; have c0 := hSw; go_simp; try with_reducible rfl
          try simp only [Act.put, List.setIfInBounds_toArray, List.set_cons_zero, List.set_cons_succ]
          refine wpAnyH_take (i := 17) (v := ?_) (List.getElem?_toArray.trans rfl) (by kernel_rfl) (by kernel_rfl) (by kernel_rfl) (fun _ _ _ h => h) (Or.inl ⟨by rfl, ?_⟩) hHeld ?_
          rotate_left
          · intro w' hSw; have c0 := hSw; go_simp; try with_reducible rfl
          try simp only [Act.put, List.setIfInBounds_toArray, List.set_cons_zero, List.set_cons_succ]
          refine wpAnyH_done (by kernel_rfl) ?_ _
          replace kR := (k2.trans k3).blk kR hne3 hne4
          have K3 := Lib.hid (K0.out.trans (k2.trans k3))
          have H3 := Lib.hid h3
          obtain ⟨bg, c2, f2⟩ := h3.c2
          have c0 := h3.c0
          clear h2 h3 k2 k3 hHeld
          go_wp2_with (go_at_call 43; (with_reducible refine (must_no _ _).mono ?_); rintro e wm ⟨rfl, rfl⟩)
          rw [HQ.out]
          exact ⟨rfl, _, _, rfl, .inr ⟨_, rfl⟩, H3.out, K3.out⟩
        · have hz2 : zm = 2 := by omega
          subst hz2
          have HG5 : Hid (gl = if c.toNat = 0 then none else endR (innerR c.toNat r)) := Lib.hid (by rw [HG4.out]; rw [if_neg h1, if_pos h2])
          have HZM := Lib.hid hzm
          have HZC := Lib.hid hzc
          by_cases hc0 : c.toNat = 0
          · have hzc0 : zc = 0 := by omega
            subst hzc0
            have HQ : Hid (gl = none) := Lib.hid (by rw [HG5.out, if_pos hc0])
            clear HG5 HG4 hc0
            go_enter Tryz.func35, Tryz.ntmps35
            go_wp2_with (go_at_call 43; rw [← HW.out]; (with_reducible refine (must_ok _ _).mono ?_); rintro e wm ⟨rfl, rfl⟩)
            refine wp_region_held_drew (S := fun w' => w'.cell? ⟨g, 0, none⟩ = some (.pointer (some ⟨b, 0, none⟩))) (by kernel_rfl) (H0.out.keep0 (gb_drew w0 none)).c0 (fun hHeld => ?_)
            refine wpAnyH_take (i := 0) (v := ?_) (List.getElem?_toArray.trans rfl) (by kernel_rfl) (by kernel_rfl) (by kernel_rfl) (fun _ _ _ h => h) (Or.inl ⟨by rfl, ?_⟩) hHeld ?_
            rotate_left
            · intro w' hSw; have c0 := hSw; go_simp; try with_reducible rfl
            try simp only [Act.put, List.setIfInBounds_toArray, List.set_cons_zero, List.set_cons_succ]
            refine wpAnyH_take (i := 1) (v := ?_) (List.getElem?_toArray.trans rfl) (by kernel_rfl) (by kernel_rfl) (by kernel_rfl) (fun _ _ _ h => h) (Or.inl ⟨by rfl, ?_⟩) hHeld ?_
            rotate_left
            · intro w' hSw; have c0 := hSw; go_simp; try with_reducible rfl
            try simp only [Act.put, List.setIfInBounds_toArray, List.set_cons_zero, List.set_cons_succ]
            refine wpAnyH_take (i := 2) (v := ?_) (List.getElem?_toArray.trans rfl) (by kernel_rfl) (by kernel_rfl) (by kernel_rfl) (fun _ _ _ h => h) (Or.inl ⟨by rfl, ?_⟩) hHeld ?_
            rotate_left
            · intro w' hSw; have c0 := hSw; go_simp; try with_reducible rfl
            try simp only [Act.put, List.setIfInBounds_toArray, List.set_cons_zero, List.set_cons_succ]
            refine wpAnyH_take (i := 3) (v := ?_) (List.getElem?_toArray.trans rfl) (by kernel_rfl) (by kernel_rfl) (by kernel_rfl) (fun _ _ _ h => h) (Or.inl ⟨by rfl, ?_⟩) hHeld ?_
            rotate_left
            · intro w' hSw; have c0 := hSw; go_simp; try with_reducible rfl
            try simp only [Act.put, List.setIfInBounds_toArray, List.set_cons_zero, List.set_cons_succ]
            refine wpAnyH_take (i := 8) (v := ?_) (List.getElem?_toArray.trans rfl) (by kernel_rfl) (by kernel_rfl) (by kernel_rfl) (fun _ _ _ h => h) (Or.inl ⟨by rfl, ?_⟩) hHeld ?_
            rotate_left
            · intro w' hSw; have c0 := hSw; go_simp; try with_reducible rfl
            try simp only [Act.put, List.setIfInBounds_toArray, List.set_cons_zero, List.set_cons_succ]
            refine wpAnyH_take (i := 9) (v := ?_) (List.getElem?_toArray.trans rfl) (by kernel_rfl) (by kernel_rfl) (by kernel_rfl) (fun _ _ _ h => h) (Or.inl ⟨by rfl, ?_⟩) hHeld ?_
            rotate_left
            · intro w' hSw; have c0 := hSw; go_simp; try with_reducible rfl
            try simp only [Act.put, List.setIfInBounds_toArray, List.set_cons_zero, List.set_cons_succ]
            refine wpAnyH_take (i := 10) (v := ?_) (List.getElem?_toArray.trans rfl) (by kernel_rfl) (by kernel_rfl) (by kernel_rfl) (fun _ _ _ h => h) (Or.inl ⟨by rfl, ?_⟩) hHeld ?_
            rotate_left
            · intro w' hSw; have c0 := hSw; go_simp; try with_reducible rfl
            try simp only [Act.put, List.setIfInBounds_toArray, List.set_cons_zero, List.set_cons_succ]
            refine wpAnyH_take (i := 11) (v := ?_) (List.getElem?_toArray.trans rfl) (by kernel_rfl) (by kernel_rfl) (by kernel_rfl) (fun _ _ _ h => h) (Or.inl ⟨by rfl, ?_⟩) hHeld ?_
            rotate_left
            · intro w' hSw; have c0 := hSw; go_simp; try with_reducible rfl
            try simp only [Act.put, List.setIfInBounds_toArray, List.set_cons_zero, List.set_cons_succ]
            refine wpAnyH_ready (rs := [4]) (by kernel_rfl) (by simp) ?_
            refine AllReadyH.cons (List.getElem?_toArray.trans rfl) (fun K hK => ?_) AllReadyH.nil
            go_simp
            go_at_call 45
            (with_reducible refine (num8_at b g s m _ hzm (c :: r) _ (H0.out.keep0 (gb_drew w0 none)) hs).mono ?_)
            rintro e w2 ⟨rfl, h2, k2⟩
            replace k2 := (Kq.of0 (gb_drew w0 none)).trans k2
            refine hK.out _ _ (h2.c0) (fun hHeld => ?_)
            clear hK K
            try simp only [Act.put, List.setIfInBounds_toArray, List.set_cons_zero, List.set_cons_succ]
            refine wpAnyH_take (i := 5) (v := ?_) (List.getElem?_toArray.trans rfl) (by kernel_rfl) (by kernel_rfl) (by kernel_rfl) (fun _ _ _ h => h) (Or.inl ⟨by rfl, ?_⟩) hHeld ?_
            rotate_left
            · intro w' hSw; have c0 := hSw; go_simp; try with_reducible rfl
            try simp only [Act.put, List.setIfInBounds_toArray, List.set_cons_zero, List.set_cons_succ]
            refine wpAnyH_take (i := 6) (v := ?_) (List.getElem?_toArray.trans rfl) (by kernel_rfl) (by kernel_rfl) (by kernel_rfl) (fun _ _ _ h => h) (Or.inl ⟨by rfl, ?_⟩) hHeld ?_
            rotate_left
            · intro w' hSw; have c0 := hSw; go_simp; try with_reducible rfl
            try simp only [Act.put, List.setIfInBounds_toArray, List.set_cons_zero, List.set_cons_succ]
            refine wpAnyH_ready (rs := [7]) (by kernel_rfl) (by simp) ?_
            refine AllReadyH.cons (List.getElem?_toArray.trans rfl) (fun K hK => ?_) AllReadyH.nil
            go_simp
            go_at_call 44
            (with_reducible refine (taken_u8 _ _).mono ?_)
            rintro e wt ⟨rfl, rfl⟩
            refine hK.out _ _ (h2.c0) (fun hHeld => ?_)
            clear hK K
            try simp only [Act.put, List.setIfInBounds_toArray, List.set_cons_zero, List.set_cons_succ]
            refine wpAnyH_ready (rs := [12]) (by kernel_rfl) (by simp) ?_
            refine AllReadyH.cons (List.getElem?_toArray.trans rfl) (fun K hK => ?_) AllReadyH.nil
            go_simp
            go_at_call 45
            (with_reducible refine (num8_at b g s c _ hzc r _ h2 hs).mono ?_)
            rintro e w3 ⟨rfl, h3, k3⟩
            refine hK.out _ _ (h3.c0) (fun hHeld => ?_)
            clear hK K
            try simp only [Act.put, List.setIfInBounds_toArray, List.set_cons_zero, List.set_cons_succ]
            refine wpAnyH_take (i := 13) (v := ?_) (List.getElem?_toArray.trans rfl) (by kernel_rfl) (by kernel_rfl) (by kernel_rfl) (fun _ _ _ h => h) (Or.inl ⟨by rfl, ?_⟩) hHeld ?_
            rotate_left
            · intro w' hSw; have c0 := hSw; go_simp; try with_reducible rfl
            try simp only [Act.put, List.setIfInBounds_toArray, List.set_cons_zero, List.set_cons_succ]
            refine wpAnyH_take (i := 14) (v := ?_) (List.getElem?_toArray.trans rfl) (by kernel_rfl) (by kernel_rfl) (by kernel_rfl) (fun _ _ _ h => h) (Or.inl ⟨by rfl, ?_⟩) hHeld ?_
            rotate_left
            · intro w' hSw; have c0 := hSw; go_simp; try with_reducible rfl
            try simp only [Act.put, List.setIfInBounds_toArray, List.set_cons_zero, List.set_cons_succ]
            refine wpAnyH_ready (rs := [15]) (by kernel_rfl) (by simp) ?_
            refine AllReadyH.cons (List.getElem?_toArray.trans rfl) (fun K hK => ?_) AllReadyH.nil
            go_simp
            go_at_call 44
            (with_reducible refine (taken_u8 _ _).mono ?_)
            rintro e wt ⟨rfl, rfl⟩
            refine hK.out _ _ (h3.c0) (fun hHeld => ?_)
            clear hK K
            try simp only [Act.put, List.setIfInBounds_toArray, List.set_cons_zero, List.set_cons_succ]
            refine wpAnyH_take (i := 16) (v := ?_) (List.getElem?_toArray.trans rfl) (by kernel_rfl) (by kernel_rfl) (by kernel_rfl) (fun _ _ _ h => h) (Or.inl ⟨by rfl, ?_⟩) hHeld ?_
            rotate_left
            · intro w' hSw; have c0 := hSw; go_simp; try with_reducible rfl
            try simp only [Act.put, List.setIfInBounds_toArray, List.set_cons_zero, List.set_cons_succ]
            refine wpAnyH_take (i := 17) (v := ?_) (List.getElem?_toArray.trans rfl) (by kernel_rfl) (by kernel_rfl) (by kernel_rfl) (fun _ _ _ h => h) (Or.inl ⟨by rfl, ?_⟩) hHeld ?_
            rotate_left
            · intro w' hSw; have c0 := hSw; go_simp; try with_reducible rfl
            try simp only [Act.put, List.setIfInBounds_toArray, List.set_cons_zero, List.set_cons_succ]
            refine wpAnyH_done (by kernel_rfl) ?_ _
            replace kR := (k2.trans k3).blk kR hne3 hne4
            have K3 := Lib.hid (K0.out.trans (k2.trans k3))
            have H3 := Lib.hid h3
            obtain ⟨bg, c2, f2⟩ := h3.c2
            have c0 := h3.c0
            clear h2 h3 k2 k3 hHeld
            go_wp2_with (first | (go_at_call 43; (with_reducible refine (must_ok _ _).mono ?_); rintro e wm ⟨rfl, rfl⟩) | (go_at_call 43; obtain ⟨u3, hu3⟩ : ∃ u : World, u = w3.setCell ⟨g, 2, none⟩ (.int .i64 1) := ⟨_, rfl⟩; rw [← hu3]; have H4 := Lib.hid (show RG u3 b g s r by rw [hu3]; exact H3.out.set2 1); have gS : w3.grownBy u3 (some g) := (by rw [hu3]; exact gb_set _ _ _ _ _); have K4 := Lib.hid (K3.out.trans (Kq.ofg gS)); have kR4 := kR.keep gS (ne_some hne4); clear hu3 gS c2 f2; (with_reducible refine (must_no _ _).mono ?_); rintro e wm ⟨rfl, rfl⟩))
            rw [HQ.out]
            exact ⟨rfl, _, _, rfl, .inr ⟨_, rfl⟩, H4.out, K4.out⟩
          · have hpos : 0 < zc := by omega
            have HG6 : Hid (gl = endR (innerR c.toNat r)) := Lib.hid (by rw [HG5.out, if_neg hc0])
            obtain ⟨cn, hcn⟩ : ∃ cn : Nat, c.toNat = cn := ⟨_, rfl⟩
            rw [hcn] at HG6 hcb hzc
            subst hzc
            have HREAD : Hid (∀ W, RG W b g s r → Calls Tryz.prog 46 #[.pointer (some ⟨g, 0, none⟩), .int .i64 (cn : Nat)] W (NodeR b g s W (innerR cn r))) := Lib.hid (fun W hW => keys_any b g cn s r W hW hs (by omega))
            have hzc : (c.toNat : Int) = (cn : Int) := by omega
            have q5 : IntKind.i64.wrap (cn : Int) = (cn : Int) := IntWalk.i64_in _ (by omega)
            have q6 : decide (0 < cn) = true := by simp; omega
            have q7 : decide ((0 : Int) < (cn : Int)) = true := by simp; omega
            clear HG5 HG4 hc0 hcn HZC
            cases hrd : innerR cn r with
            | none =>
              rw [hrd] at HREAD HG6
              have HQ : Hid (gl = none) := Lib.hid HG6.out
              clear hrd HG6
              go_enter Tryz.func35, Tryz.ntmps35
              go_wp2_with (go_at_call 43; rw [← HW.out]; (with_reducible refine (must_ok _ _).mono ?_); rintro e wm ⟨rfl, rfl⟩)
              refine wp_region_held_drew (S := fun w' => w'.cell? ⟨g, 0, none⟩ = some (.pointer (some ⟨b, 0, none⟩))) (by kernel_rfl) (H0.out.keep0 (gb_drew w0 none)).c0 (fun hHeld => ?_)
              refine wpAnyH_take (i := 0) (v := ?_) (List.getElem?_toArray.trans rfl) (by kernel_rfl) (by kernel_rfl) (by kernel_rfl) (fun _ _ _ h => h) (Or.inl ⟨by rfl, ?_⟩) hHeld ?_
              rotate_left
              · intro w' hSw; have c0 := hSw; go_simp; try with_reducible rfl
              try simp only [Act.put, List.setIfInBounds_toArray, List.set_cons_zero, List.set_cons_succ]
              refine wpAnyH_take (i := 1) (v := ?_) (List.getElem?_toArray.trans rfl) (by kernel_rfl) (by kernel_rfl) (by kernel_rfl) (fun _ _ _ h => h) (Or.inl ⟨by rfl, ?_⟩) hHeld ?_
              rotate_left
              · intro w' hSw; have c0 := hSw; go_simp; try with_reducible rfl
              try simp only [Act.put, List.setIfInBounds_toArray, List.set_cons_zero, List.set_cons_succ]
              refine wpAnyH_take (i := 2) (v := ?_) (List.getElem?_toArray.trans rfl) (by kernel_rfl) (by kernel_rfl) (by kernel_rfl) (fun _ _ _ h => h) (Or.inl ⟨by rfl, ?_⟩) hHeld ?_
              rotate_left
              · intro w' hSw; have c0 := hSw; go_simp; try with_reducible rfl
              try simp only [Act.put, List.setIfInBounds_toArray, List.set_cons_zero, List.set_cons_succ]
              refine wpAnyH_take (i := 3) (v := ?_) (List.getElem?_toArray.trans rfl) (by kernel_rfl) (by kernel_rfl) (by kernel_rfl) (fun _ _ _ h => h) (Or.inl ⟨by rfl, ?_⟩) hHeld ?_
              rotate_left
              · intro w' hSw; have c0 := hSw; go_simp; try with_reducible rfl
              try simp only [Act.put, List.setIfInBounds_toArray, List.set_cons_zero, List.set_cons_succ]
              refine wpAnyH_take (i := 8) (v := ?_) (List.getElem?_toArray.trans rfl) (by kernel_rfl) (by kernel_rfl) (by kernel_rfl) (fun _ _ _ h => h) (Or.inl ⟨by rfl, ?_⟩) hHeld ?_
              rotate_left
              · intro w' hSw; have c0 := hSw; go_simp; try with_reducible rfl
              try simp only [Act.put, List.setIfInBounds_toArray, List.set_cons_zero, List.set_cons_succ]
              refine wpAnyH_take (i := 9) (v := ?_) (List.getElem?_toArray.trans rfl) (by kernel_rfl) (by kernel_rfl) (by kernel_rfl) (fun _ _ _ h => h) (Or.inl ⟨by rfl, ?_⟩) hHeld ?_
              rotate_left
              · intro w' hSw; have c0 := hSw; go_simp; try with_reducible rfl
              try simp only [Act.put, List.setIfInBounds_toArray, List.set_cons_zero, List.set_cons_succ]
              refine wpAnyH_take (i := 10) (v := ?_) (List.getElem?_toArray.trans rfl) (by kernel_rfl) (by kernel_rfl) (by kernel_rfl) (fun _ _ _ h => h) (Or.inl ⟨by rfl, ?_⟩) hHeld ?_
              rotate_left
              · intro w' hSw; have c0 := hSw; go_simp; try with_reducible rfl
              try simp only [Act.put, List.setIfInBounds_toArray, List.set_cons_zero, List.set_cons_succ]
              refine wpAnyH_take (i := 11) (v := ?_) (List.getElem?_toArray.trans rfl) (by kernel_rfl) (by kernel_rfl) (by kernel_rfl) (fun _ _ _ h => h) (Or.inl ⟨by rfl, ?_⟩) hHeld ?_
              rotate_left
              · intro w' hSw; have c0 := hSw; go_simp; try with_reducible rfl
              try simp only [Act.put, List.setIfInBounds_toArray, List.set_cons_zero, List.set_cons_succ]
              refine wpAnyH_ready (rs := [4]) (by kernel_rfl) (by simp) ?_
              refine AllReadyH.cons (List.getElem?_toArray.trans rfl) (fun K hK => ?_) AllReadyH.nil
              go_simp
              go_at_call 45
              (with_reducible refine (num8_at b g s m _ hzm (c :: r) _ (H0.out.keep0 (gb_drew w0 none)) hs).mono ?_)
              rintro e w2 ⟨rfl, h2, k2⟩
              replace k2 := (Kq.of0 (gb_drew w0 none)).trans k2
              refine hK.out _ _ (h2.c0) (fun hHeld => ?_)
              clear hK K
              try simp only [Act.put, List.setIfInBounds_toArray, List.set_cons_zero, List.set_cons_succ]
              refine wpAnyH_take (i := 5) (v := ?_) (List.getElem?_toArray.trans rfl) (by kernel_rfl) (by kernel_rfl) (by kernel_rfl) (fun _ _ _ h => h) (Or.inl ⟨by rfl, ?_⟩) hHeld ?_
              rotate_left
              · intro w' hSw; have c0 := hSw; go_simp; try with_reducible rfl
              try simp only [Act.put, List.setIfInBounds_toArray, List.set_cons_zero, List.set_cons_succ]
              refine wpAnyH_take (i := 6) (v := ?_) (List.getElem?_toArray.trans rfl) (by kernel_rfl) (by kernel_rfl) (by kernel_rfl) (fun _ _ _ h => h) (Or.inl ⟨by rfl, ?_⟩) hHeld ?_
              rotate_left
              · intro w' hSw; have c0 := hSw; go_simp; try with_reducible rfl
              try simp only [Act.put, List.setIfInBounds_toArray, List.set_cons_zero, List.set_cons_succ]
              refine wpAnyH_ready (rs := [7]) (by kernel_rfl) (by simp) ?_
              refine AllReadyH.cons (List.getElem?_toArray.trans rfl) (fun K hK => ?_) AllReadyH.nil
              go_simp
              go_at_call 44
              (with_reducible refine (taken_u8 _ _).mono ?_)
              rintro e wt ⟨rfl, rfl⟩
              refine hK.out _ _ (h2.c0) (fun hHeld => ?_)
              clear hK K
              try simp only [Act.put, List.setIfInBounds_toArray, List.set_cons_zero, List.set_cons_succ]
              refine wpAnyH_ready (rs := [12]) (by kernel_rfl) (by simp) ?_
              refine AllReadyH.cons (List.getElem?_toArray.trans rfl) (fun K hK => ?_) AllReadyH.nil
              go_simp
              go_at_call 45
              (with_reducible refine (num8_at b g s c _ hzc r _ h2 hs).mono ?_)
              rintro e w3 ⟨rfl, h3, k3⟩
              refine hK.out _ _ (h3.c0) (fun hHeld => ?_)
              clear hK K
              try simp only [Act.put, List.setIfInBounds_toArray, List.set_cons_zero, List.set_cons_succ]
              refine wpAnyH_take (i := 13) (v := ?_) (List.getElem?_toArray.trans rfl) (by kernel_rfl) (by kernel_rfl) (by kernel_rfl) (fun _ _ _ h => h) (Or.inl ⟨by rfl, ?_⟩) hHeld ?_
              rotate_left
              · intro w' hSw; have c0 := hSw; go_simp; try with_reducible rfl
              try simp only [Act.put, List.setIfInBounds_toArray, List.set_cons_zero, List.set_cons_succ]
              refine wpAnyH_take (i := 14) (v := ?_) (List.getElem?_toArray.trans rfl) (by kernel_rfl) (by kernel_rfl) (by kernel_rfl) (fun _ _ _ h => h) (Or.inl ⟨by rfl, ?_⟩) hHeld ?_
              rotate_left
              · intro w' hSw; have c0 := hSw; go_simp; try with_reducible rfl
              try simp only [Act.put, List.setIfInBounds_toArray, List.set_cons_zero, List.set_cons_succ]
              refine wpAnyH_ready (rs := [15]) (by kernel_rfl) (by simp) ?_
              refine AllReadyH.cons (List.getElem?_toArray.trans rfl) (fun K hK => ?_) AllReadyH.nil
              go_simp
              go_at_call 44
              (with_reducible refine (taken_u8 _ _).mono ?_)
              rintro e wt ⟨rfl, rfl⟩
              refine hK.out _ _ (h3.c0) (fun hHeld => ?_)
              clear hK K
              try simp only [Act.put, List.setIfInBounds_toArray, List.set_cons_zero, List.set_cons_succ]
              refine wpAnyH_take (i := 16) (v := ?_) (List.getElem?_toArray.trans rfl) (by kernel_rfl) (by kernel_rfl) (by kernel_rfl) (fun _ _ _ h => h) (Or.inl ⟨by rfl, ?_⟩) hHeld ?_
              rotate_left
              · intro w' hSw; have c0 := hSw; go_simp; try with_reducible rfl
              try simp only [Act.put, List.setIfInBounds_toArray, List.set_cons_zero, List.set_cons_succ]
              refine wpAnyH_take (i := 17) (v := ?_) (List.getElem?_toArray.trans rfl) (by kernel_rfl) (by kernel_rfl) (by kernel_rfl) (fun _ _ _ h => h) (Or.inl ⟨by rfl, ?_⟩) hHeld ?_
              rotate_left
              · intro w' hSw; have c0 := hSw; go_simp; try with_reducible rfl
              try simp only [Act.put, List.setIfInBounds_toArray, List.set_cons_zero, List.set_cons_succ]
              refine wpAnyH_done (by kernel_rfl) ?_ _
              replace kR := (k2.trans k3).blk kR hne3 hne4
              have K3 := Lib.hid (K0.out.trans (k2.trans k3))
              have H3 := Lib.hid h3
              obtain ⟨bg, c2, f2⟩ := h3.c2
              have c0 := h3.c0
              clear h2 h3 k2 k3 hHeld
              go_wp2_with (first
                | (go_at_call 43; first
                    | ((with_reducible refine (must_ok 6 _).mono ?_); rintro e wm ⟨rfl, rfl⟩)
                    | (obtain ⟨u3, hu3⟩ : ∃ u : World, u = w3.setCell ⟨g, 2, none⟩ (.int .i64 1) := ⟨_, rfl⟩; rw [← hu3]; have H4 := Lib.hid (show RG u3 b g s r by rw [hu3]; exact H3.out.set2 1); have gS : w3.grownBy u3 (some g) := (by rw [hu3]; exact gb_set _ _ _ _ _); have K4 := Lib.hid (K3.out.trans (Kq.ofg gS)); have kR4 := kR.keep gS (ne_some hne4); clear hu3 gS c2 f2; (with_reducible refine (must_ok 2 _).mono ?_); rintro e wm ⟨rfl, rfl⟩))
                | (go_at_call 46; (with_reducible refine (HREAD.out _ H4.out).mono ?_); rintro e w7 ⟨pv, l7, rfl, hw, h7, k7⟩))
              rw [HQ.out]
              exact ⟨rfl, pv, l7, rfl, hw, h7, K4.out.trans k7⟩
            | some x =>
              obtain ⟨n, rest⟩ := x
              rw [hrd] at HREAD HG6
              clear hrd
              by_cases hlr : rest.length = 0
              · have hr0 : rest = [] := List.eq_nil_of_length_eq_zero hlr
                subst hr0
                have HQ : Hid (gl = some n) := Lib.hid (by rw [HG6.out]; rfl)
                clear hlr HG6
                go_enter Tryz.func35, Tryz.ntmps35
                go_wp2_with (go_at_call 43; rw [← HW.out]; (with_reducible refine (must_ok _ _).mono ?_); rintro e wm ⟨rfl, rfl⟩)
                refine wp_region_held_drew (S := fun w' => w'.cell? ⟨g, 0, none⟩ = some (.pointer (some ⟨b, 0, none⟩))) (by kernel_rfl) (H0.out.keep0 (gb_drew w0 none)).c0 (fun hHeld => ?_)
                refine wpAnyH_take (i := 0) (v := ?_) (List.getElem?_toArray.trans rfl) (by kernel_rfl) (by kernel_rfl) (by kernel_rfl) (fun _ _ _ h => h) (Or.inl ⟨by rfl, ?_⟩) hHeld ?_
                rotate_left
                · intro w' hSw; have c0 := hSw; go_simp; try with_reducible rfl
                try simp only [Act.put, List.setIfInBounds_toArray, List.set_cons_zero, List.set_cons_succ]
                refine wpAnyH_take (i := 1) (v := ?_) (List.getElem?_toArray.trans rfl) (by kernel_rfl) (by kernel_rfl) (by kernel_rfl) (fun _ _ _ h => h) (Or.inl ⟨by rfl, ?_⟩) hHeld ?_
                rotate_left
                · intro w' hSw; have c0 := hSw; go_simp; try with_reducible rfl
                try simp only [Act.put, List.setIfInBounds_toArray, List.set_cons_zero, List.set_cons_succ]
                refine wpAnyH_take (i := 2) (v := ?_) (List.getElem?_toArray.trans rfl) (by kernel_rfl) (by kernel_rfl) (by kernel_rfl) (fun _ _ _ h => h) (Or.inl ⟨by rfl, ?_⟩) hHeld ?_
                rotate_left
                · intro w' hSw; have c0 := hSw; go_simp; try with_reducible rfl
                try simp only [Act.put, List.setIfInBounds_toArray, List.set_cons_zero, List.set_cons_succ]
                refine wpAnyH_take (i := 3) (v := ?_) (List.getElem?_toArray.trans rfl) (by kernel_rfl) (by kernel_rfl) (by kernel_rfl) (fun _ _ _ h => h) (Or.inl ⟨by rfl, ?_⟩) hHeld ?_
                rotate_left
                · intro w' hSw; have c0 := hSw; go_simp; try with_reducible rfl
                try simp only [Act.put, List.setIfInBounds_toArray, List.set_cons_zero, List.set_cons_succ]
                refine wpAnyH_take (i := 8) (v := ?_) (List.getElem?_toArray.trans rfl) (by kernel_rfl) (by kernel_rfl) (by kernel_rfl) (fun _ _ _ h => h) (Or.inl ⟨by rfl, ?_⟩) hHeld ?_
                rotate_left
                · intro w' hSw; have c0 := hSw; go_simp; try with_reducible rfl
                try simp only [Act.put, List.setIfInBounds_toArray, List.set_cons_zero, List.set_cons_succ]
                refine wpAnyH_take (i := 9) (v := ?_) (List.getElem?_toArray.trans rfl) (by kernel_rfl) (by kernel_rfl) (by kernel_rfl) (fun _ _ _ h => h) (Or.inl ⟨by rfl, ?_⟩) hHeld ?_
                rotate_left
                · intro w' hSw; have c0 := hSw; go_simp; try with_reducible rfl
                try simp only [Act.put, List.setIfInBounds_toArray, List.set_cons_zero, List.set_cons_succ]
                refine wpAnyH_take (i := 10) (v := ?_) (List.getElem?_toArray.trans rfl) (by kernel_rfl) (by kernel_rfl) (by kernel_rfl) (fun _ _ _ h => h) (Or.inl ⟨by rfl, ?_⟩) hHeld ?_
                rotate_left
                · intro w' hSw; have c0 := hSw; go_simp; try with_reducible rfl
                try simp only [Act.put, List.setIfInBounds_toArray, List.set_cons_zero, List.set_cons_succ]
                refine wpAnyH_take (i := 11) (v := ?_) (List.getElem?_toArray.trans rfl) (by kernel_rfl) (by kernel_rfl) (by kernel_rfl) (fun _ _ _ h => h) (Or.inl ⟨by rfl, ?_⟩) hHeld ?_
                rotate_left
                · intro w' hSw; have c0 := hSw; go_simp; try with_reducible rfl
                try simp only [Act.put, List.setIfInBounds_toArray, List.set_cons_zero, List.set_cons_succ]
                refine wpAnyH_ready (rs := [4]) (by kernel_rfl) (by simp) ?_
                refine AllReadyH.cons (List.getElem?_toArray.trans rfl) (fun K hK => ?_) AllReadyH.nil
                go_simp
                go_at_call 45
                (with_reducible refine (num8_at b g s m _ hzm (c :: r) _ (H0.out.keep0 (gb_drew w0 none)) hs).mono ?_)
                rintro e w2 ⟨rfl, h2, k2⟩
                replace k2 := (Kq.of0 (gb_drew w0 none)).trans k2
                refine hK.out _ _ (h2.c0) (fun hHeld => ?_)
                clear hK K
                try simp only [Act.put, List.setIfInBounds_toArray, List.set_cons_zero, List.set_cons_succ]
                refine wpAnyH_take (i := 5) (v := ?_) (List.getElem?_toArray.trans rfl) (by kernel_rfl) (by kernel_rfl) (by kernel_rfl) (fun _ _ _ h => h) (Or.inl ⟨by rfl, ?_⟩) hHeld ?_
                rotate_left
                · intro w' hSw; have c0 := hSw; go_simp; try with_reducible rfl
                try simp only [Act.put, List.setIfInBounds_toArray, List.set_cons_zero, List.set_cons_succ]
                refine wpAnyH_take (i := 6) (v := ?_) (List.getElem?_toArray.trans rfl) (by kernel_rfl) (by kernel_rfl) (by kernel_rfl) (fun _ _ _ h => h) (Or.inl ⟨by rfl, ?_⟩) hHeld ?_
                rotate_left
                · intro w' hSw; have c0 := hSw; go_simp; try with_reducible rfl
                try simp only [Act.put, List.setIfInBounds_toArray, List.set_cons_zero, List.set_cons_succ]
                refine wpAnyH_ready (rs := [7]) (by kernel_rfl) (by simp) ?_
                refine AllReadyH.cons (List.getElem?_toArray.trans rfl) (fun K hK => ?_) AllReadyH.nil
                go_simp
                go_at_call 44
                (with_reducible refine (taken_u8 _ _).mono ?_)
                rintro e wt ⟨rfl, rfl⟩
                refine hK.out _ _ (h2.c0) (fun hHeld => ?_)
                clear hK K
                try simp only [Act.put, List.setIfInBounds_toArray, List.set_cons_zero, List.set_cons_succ]
                refine wpAnyH_ready (rs := [12]) (by kernel_rfl) (by simp) ?_
                refine AllReadyH.cons (List.getElem?_toArray.trans rfl) (fun K hK => ?_) AllReadyH.nil
                go_simp
                go_at_call 45
                (with_reducible refine (num8_at b g s c _ hzc r _ h2 hs).mono ?_)
                rintro e w3 ⟨rfl, h3, k3⟩
                refine hK.out _ _ (h3.c0) (fun hHeld => ?_)
                clear hK K
                try simp only [Act.put, List.setIfInBounds_toArray, List.set_cons_zero, List.set_cons_succ]
                refine wpAnyH_take (i := 13) (v := ?_) (List.getElem?_toArray.trans rfl) (by kernel_rfl) (by kernel_rfl) (by kernel_rfl) (fun _ _ _ h => h) (Or.inl ⟨by rfl, ?_⟩) hHeld ?_
                rotate_left
                · intro w' hSw; have c0 := hSw; go_simp; try with_reducible rfl
                try simp only [Act.put, List.setIfInBounds_toArray, List.set_cons_zero, List.set_cons_succ]
                refine wpAnyH_take (i := 14) (v := ?_) (List.getElem?_toArray.trans rfl) (by kernel_rfl) (by kernel_rfl) (by kernel_rfl) (fun _ _ _ h => h) (Or.inl ⟨by rfl, ?_⟩) hHeld ?_
                rotate_left
                · intro w' hSw; have c0 := hSw; go_simp; try with_reducible rfl
                try simp only [Act.put, List.setIfInBounds_toArray, List.set_cons_zero, List.set_cons_succ]
                refine wpAnyH_ready (rs := [15]) (by kernel_rfl) (by simp) ?_
                refine AllReadyH.cons (List.getElem?_toArray.trans rfl) (fun K hK => ?_) AllReadyH.nil
                go_simp
                go_at_call 44
                (with_reducible refine (taken_u8 _ _).mono ?_)
                rintro e wt ⟨rfl, rfl⟩
                refine hK.out _ _ (h3.c0) (fun hHeld => ?_)
                clear hK K
                try simp only [Act.put, List.setIfInBounds_toArray, List.set_cons_zero, List.set_cons_succ]
                refine wpAnyH_take (i := 16) (v := ?_) (List.getElem?_toArray.trans rfl) (by kernel_rfl) (by kernel_rfl) (by kernel_rfl) (fun _ _ _ h => h) (Or.inl ⟨by rfl, ?_⟩) hHeld ?_
                rotate_left
                · intro w' hSw; have c0 := hSw; go_simp; try with_reducible rfl
                try simp only [Act.put, List.setIfInBounds_toArray, List.set_cons_zero, List.set_cons_succ]
                refine wpAnyH_take (i := 17) (v := ?_) (List.getElem?_toArray.trans rfl) (by kernel_rfl) (by kernel_rfl) (by kernel_rfl) (fun _ _ _ h => h) (Or.inl ⟨by rfl, ?_⟩) hHeld ?_
                rotate_left
                · intro w' hSw; have c0 := hSw; go_simp; try with_reducible rfl
                try simp only [Act.put, List.setIfInBounds_toArray, List.set_cons_zero, List.set_cons_succ]
                refine wpAnyH_done (by kernel_rfl) ?_ _
                replace kR := (k2.trans k3).blk kR hne3 hne4
                have K3 := Lib.hid (K0.out.trans (k2.trans k3))
                have H3 := Lib.hid h3
                obtain ⟨bg, c2, f2⟩ := h3.c2
                have c0 := h3.c0
                clear h2 h3 k2 k3 hHeld
                go_wp2_with (first
                  | (go_at_call 43; first
                      | ((with_reducible refine (must_ok 6 _).mono ?_); rintro e wm ⟨rfl, rfl⟩)
                      | (obtain ⟨u3, hu3⟩ : ∃ u : World, u = w3.setCell ⟨g, 2, none⟩ (.int .i64 1) := ⟨_, rfl⟩; rw [← hu3]; have H4 := Lib.hid (show RG u3 b g s r by rw [hu3]; exact H3.out.set2 1); have gS : w3.grownBy u3 (some g) := (by rw [hu3]; exact gb_set _ _ _ _ _); have K4 := Lib.hid (K3.out.trans (Kq.ofg gS)); have kR4 := kR.keep gS (ne_some hne4); clear hu3 gS c2 f2; (with_reducible refine (must_ok 2 _).mono ?_); rintro e wm ⟨rfl, rfl⟩))
                  | (go_at_call 46; (with_reducible refine (HREAD.out _ H4.out).mono ?_); rintro e w7 ⟨v7, rfl, hv7, h7, k7⟩; obtain ⟨x1, y1, z1, rfl, ax, ay, az⟩ := hv7; obtain ⟨o1, p1, d1, rfl⟩ := shape' ax; obtain ⟨o2, p2, d2, rfl⟩ := shape' ay; obtain ⟨o3, p3, d3, rfl⟩ := shape' az; have HV : Hid (NdV w7 (.agg #[.bool n.leaf, .slice o1 p1 d1, .slice o2 p2 d2, .slice o3 p3 d3]) n) := Lib.hid ⟨_, _, _, rfl, ax, ay, az⟩; clear ax ay az; have kR7 := k7.blk kR4 hne3 hne4; have H7 := Lib.hid h7; have K7 := Lib.hid (K4.out.trans k7); clear c0 h7 k7 kR4; have c0 := (H7.out.keep0 (gb_alloc w7 (.cells #[.bool n.leaf, .slice o1 p1 d1, .slice o2 p2 d2, .slice o3 p3 d3] 26) none)).c0)
                  | (go_at_call 48; obtain ⟨u7, hu7, kn, gn, hzz⟩ := new1 w7 26 #[.bool n.leaf, .slice o1 p1 d1, .slice o2 p2 d2, .slice o3 p3 d3]; rw [← hu7]; clear hu7 hzz; have hR7 : w.heap.size < w7.heap.size := kR7.lt; replace kR7 := kR7.keep0 gn; (with_reducible refine (end_got b g s _ (H7.out.keep0 gn) hs).mono ?_); rintro e w8 ⟨rfl, h8, g8⟩; have k8 : Kq b g _ w8 := Kq.of0 g8; have hb8 : w7.heap.size ≠ b := (by omega); have hg8 : w7.heap.size ≠ g := (by omega); replace kn := k8.blk kn hb8 hg8; replace kR7 := k8.blk kR7 hne3 hne4; have K8 := Lib.hid (((K7.out).trans (Kq.of0 gn)).trans k8); have r0 := kn.cell 0 rfl; have r1 := kn.cell 1 rfl; have r2 := kn.cell 2 rfl; have r3 := kn.cell 3 rfl; have HV8 : Hid (NdV w8 (.agg #[.bool n.leaf, .slice o1 p1 d1, .slice o2 p2 d2, .slice o3 p3 d3]) n) := Lib.hid ((HV.out.keep0 gn).keep0 g8); clear h8 k8 g8 gn)
                  | ((with_reducible refine st_node rfl w.heap.size 26 ?_ ?_ ?_ ?_ ?_ ?_ ?_ ?_ ?_ ?_ ?_ ?_ _ _ _ _ kR7 ?_); rotate_left 10; (· rfl); (· rfl); intro w9 n9 g9))
                refine bodyPost_ret (results_c rfl _ _ _ _ _ _ _ rfl n9) rfl ?_
                rw [HQ.out]
                exact ⟨_, rfl, HV8.out.keepN (Nbl.node kR7) g9, K8.out.step g9 (Nat.le_refl _)⟩
              · have HQ : Hid (gl = none) := Lib.hid (by rw [HG6.out]; unfold endR; rw [Option.bind_some]; exact if_neg hlr)
                have HLR := Lib.hid hlr
                clear hlr HG6
                go_enter Tryz.func35, Tryz.ntmps35
                go_wp2_with (go_at_call 43; rw [← HW.out]; (with_reducible refine (must_ok _ _).mono ?_); rintro e wm ⟨rfl, rfl⟩)
                refine wp_region_held_drew (S := fun w' => w'.cell? ⟨g, 0, none⟩ = some (.pointer (some ⟨b, 0, none⟩))) (by kernel_rfl) (H0.out.keep0 (gb_drew w0 none)).c0 (fun hHeld => ?_)
                refine wpAnyH_take (i := 0) (v := ?_) (List.getElem?_toArray.trans rfl) (by kernel_rfl) (by kernel_rfl) (by kernel_rfl) (fun _ _ _ h => h) (Or.inl ⟨by rfl, ?_⟩) hHeld ?_
                rotate_left
                · intro w' hSw; have c0 := hSw; go_simp; try with_reducible rfl
                try simp only [Act.put, List.setIfInBounds_toArray, List.set_cons_zero, List.set_cons_succ]
                refine wpAnyH_take (i := 1) (v := ?_) (List.getElem?_toArray.trans rfl) (by kernel_rfl) (by kernel_rfl) (by kernel_rfl) (fun _ _ _ h => h) (Or.inl ⟨by rfl, ?_⟩) hHeld ?_
                rotate_left
                · intro w' hSw; have c0 := hSw; go_simp; try with_reducible rfl
                try simp only [Act.put, List.setIfInBounds_toArray, List.set_cons_zero, List.set_cons_succ]
                refine wpAnyH_take (i := 2) (v := ?_) (List.getElem?_toArray.trans rfl) (by kernel_rfl) (by kernel_rfl) (by kernel_rfl) (fun _ _ _ h => h) (Or.inl ⟨by rfl, ?_⟩) hHeld ?_
                rotate_left
                · intro w' hSw; have c0 := hSw; go_simp; try with_reducible rfl
                try simp only [Act.put, List.setIfInBounds_toArray, List.set_cons_zero, List.set_cons_succ]
                refine wpAnyH_take (i := 3) (v := ?_) (List.getElem?_toArray.trans rfl) (by kernel_rfl) (by kernel_rfl) (by kernel_rfl) (fun _ _ _ h => h) (Or.inl ⟨by rfl, ?_⟩) hHeld ?_
                rotate_left
                · intro w' hSw; have c0 := hSw; go_simp; try with_reducible rfl
                try simp only [Act.put, List.setIfInBounds_toArray, List.set_cons_zero, List.set_cons_succ]
                refine wpAnyH_take (i := 8) (v := ?_) (List.getElem?_toArray.trans rfl) (by kernel_rfl) (by kernel_rfl) (by kernel_rfl) (fun _ _ _ h => h) (Or.inl ⟨by rfl, ?_⟩) hHeld ?_
                rotate_left
                · intro w' hSw; have c0 := hSw; go_simp; try with_reducible rfl
                try simp only [Act.put, List.setIfInBounds_toArray, List.set_cons_zero, List.set_cons_succ]
                refine wpAnyH_take (i := 9) (v := ?_) (List.getElem?_toArray.trans rfl) (by kernel_rfl) (by kernel_rfl) (by kernel_rfl) (fun _ _ _ h => h) (Or.inl ⟨by rfl, ?_⟩) hHeld ?_
                rotate_left
                · intro w' hSw; have c0 := hSw; go_simp; try with_reducible rfl
                try simp only [Act.put, List.setIfInBounds_toArray, List.set_cons_zero, List.set_cons_succ]
                refine wpAnyH_take (i := 10) (v := ?_) (List.getElem?_toArray.trans rfl) (by kernel_rfl) (by kernel_rfl) (by kernel_rfl) (fun _ _ _ h => h) (Or.inl ⟨by rfl, ?_⟩) hHeld ?_
                rotate_left
                · intro w' hSw; have c0 := hSw; go_simp; try with_reducible rfl
                try simp only [Act.put, List.setIfInBounds_toArray, List.set_cons_zero, List.set_cons_succ]
                refine wpAnyH_take (i := 11) (v := ?_) (List.getElem?_toArray.trans rfl) (by kernel_rfl) (by kernel_rfl) (by kernel_rfl) (fun _ _ _ h => h) (Or.inl ⟨by rfl, ?_⟩) hHeld ?_
                rotate_left
                · intro w' hSw; have c0 := hSw; go_simp; try with_reducible rfl
                try simp only [Act.put, List.setIfInBounds_toArray, List.set_cons_zero, List.set_cons_succ]
                refine wpAnyH_ready (rs := [4]) (by kernel_rfl) (by simp) ?_
                refine AllReadyH.cons (List.getElem?_toArray.trans rfl) (fun K hK => ?_) AllReadyH.nil
                go_simp
                go_at_call 45
                (with_reducible refine (num8_at b g s m _ hzm (c :: r) _ (H0.out.keep0 (gb_drew w0 none)) hs).mono ?_)
                rintro e w2 ⟨rfl, h2, k2⟩
                replace k2 := (Kq.of0 (gb_drew w0 none)).trans k2
                refine hK.out _ _ (h2.c0) (fun hHeld => ?_)
                clear hK K
                try simp only [Act.put, List.setIfInBounds_toArray, List.set_cons_zero, List.set_cons_succ]
                refine wpAnyH_take (i := 5) (v := ?_) (List.getElem?_toArray.trans rfl) (by kernel_rfl) (by kernel_rfl) (by kernel_rfl) (fun _ _ _ h => h) (Or.inl ⟨by rfl, ?_⟩) hHeld ?_
                rotate_left
                · intro w' hSw; have c0 := hSw; go_simp; try with_reducible rfl
                try simp only [Act.put, List.setIfInBounds_toArray, List.set_cons_zero, List.set_cons_succ]
                refine wpAnyH_take (i := 6) (v := ?_) (List.getElem?_toArray.trans rfl) (by kernel_rfl) (by kernel_rfl) (by kernel_rfl) (fun _ _ _ h => h) (Or.inl ⟨by rfl, ?_⟩) hHeld ?_
                rotate_left
                · intro w' hSw; have c0 := hSw; go_simp; try with_reducible rfl
                try simp only [Act.put, List.setIfInBounds_toArray, List.set_cons_zero, List.set_cons_succ]
                refine wpAnyH_ready (rs := [7]) (by kernel_rfl) (by simp) ?_
                refine AllReadyH.cons (List.getElem?_toArray.trans rfl) (fun K hK => ?_) AllReadyH.nil
                go_simp
                go_at_call 44
                (with_reducible refine (taken_u8 _ _).mono ?_)
                rintro e wt ⟨rfl, rfl⟩
                refine hK.out _ _ (h2.c0) (fun hHeld => ?_)
                clear hK K
                try simp only [Act.put, List.setIfInBounds_toArray, List.set_cons_zero, List.set_cons_succ]
                refine wpAnyH_ready (rs := [12]) (by kernel_rfl) (by simp) ?_
                refine AllReadyH.cons (List.getElem?_toArray.trans rfl) (fun K hK => ?_) AllReadyH.nil
                go_simp
                go_at_call 45
                (with_reducible refine (num8_at b g s c _ hzc r _ h2 hs).mono ?_)
                rintro e w3 ⟨rfl, h3, k3⟩
                refine hK.out _ _ (h3.c0) (fun hHeld => ?_)
                clear hK K
                try simp only [Act.put, List.setIfInBounds_toArray, List.set_cons_zero, List.set_cons_succ]
                refine wpAnyH_take (i := 13) (v := ?_) (List.getElem?_toArray.trans rfl) (by kernel_rfl) (by kernel_rfl) (by kernel_rfl) (fun _ _ _ h => h) (Or.inl ⟨by rfl, ?_⟩) hHeld ?_
                rotate_left
                · intro w' hSw; have c0 := hSw; go_simp; try with_reducible rfl
                try simp only [Act.put, List.setIfInBounds_toArray, List.set_cons_zero, List.set_cons_succ]
                refine wpAnyH_take (i := 14) (v := ?_) (List.getElem?_toArray.trans rfl) (by kernel_rfl) (by kernel_rfl) (by kernel_rfl) (fun _ _ _ h => h) (Or.inl ⟨by rfl, ?_⟩) hHeld ?_
                rotate_left
                · intro w' hSw; have c0 := hSw; go_simp; try with_reducible rfl
                try simp only [Act.put, List.setIfInBounds_toArray, List.set_cons_zero, List.set_cons_succ]
                refine wpAnyH_ready (rs := [15]) (by kernel_rfl) (by simp) ?_
                refine AllReadyH.cons (List.getElem?_toArray.trans rfl) (fun K hK => ?_) AllReadyH.nil
                go_simp
                go_at_call 44
                (with_reducible refine (taken_u8 _ _).mono ?_)
                rintro e wt ⟨rfl, rfl⟩
                refine hK.out _ _ (h3.c0) (fun hHeld => ?_)
                clear hK K
                try simp only [Act.put, List.setIfInBounds_toArray, List.set_cons_zero, List.set_cons_succ]
                refine wpAnyH_take (i := 16) (v := ?_) (List.getElem?_toArray.trans rfl) (by kernel_rfl) (by kernel_rfl) (by kernel_rfl) (fun _ _ _ h => h) (Or.inl ⟨by rfl, ?_⟩) hHeld ?_
                rotate_left
                · intro w' hSw; have c0 := hSw; go_simp; try with_reducible rfl
                try simp only [Act.put, List.setIfInBounds_toArray, List.set_cons_zero, List.set_cons_succ]
                refine wpAnyH_take (i := 17) (v := ?_) (List.getElem?_toArray.trans rfl) (by kernel_rfl) (by kernel_rfl) (by kernel_rfl) (fun _ _ _ h => h) (Or.inl ⟨by rfl, ?_⟩) hHeld ?_
                rotate_left
                · intro w' hSw; have c0 := hSw; go_simp; try with_reducible rfl
                try simp only [Act.put, List.setIfInBounds_toArray, List.set_cons_zero, List.set_cons_succ]
                refine wpAnyH_done (by kernel_rfl) ?_ _
                replace kR := (k2.trans k3).blk kR hne3 hne4
                have K3 := Lib.hid (K0.out.trans (k2.trans k3))
                have H3 := Lib.hid h3
                obtain ⟨bg, c2, f2⟩ := h3.c2
                have c0 := h3.c0
                clear h2 h3 k2 k3 hHeld
                go_wp2_with (first
                  | (go_at_call 43; first
                      | ((with_reducible refine (must_ok 6 _).mono ?_); rintro e wm ⟨rfl, rfl⟩)
                      | (obtain ⟨u3, hu3⟩ : ∃ u : World, u = w3.setCell ⟨g, 2, none⟩ (.int .i64 1) := ⟨_, rfl⟩; rw [← hu3]; have H4 := Lib.hid (show RG u3 b g s r by rw [hu3]; exact H3.out.set2 1); have gS : w3.grownBy u3 (some g) := (by rw [hu3]; exact gb_set _ _ _ _ _); have K4 := Lib.hid (K3.out.trans (Kq.ofg gS)); have kR4 := kR.keep gS (ne_some hne4); clear hu3 gS c2 f2; (with_reducible refine (must_ok 2 _).mono ?_); rintro e wm ⟨rfl, rfl⟩))
                  | (go_at_call 46; (with_reducible refine (HREAD.out _ H4.out).mono ?_); rintro e w7 ⟨v7, rfl, hv7, h7, k7⟩; obtain ⟨x1, y1, z1, rfl, ax, ay, az⟩ := hv7; obtain ⟨o1, p1, d1, rfl⟩ := shape' ax; obtain ⟨o2, p2, d2, rfl⟩ := shape' ay; obtain ⟨o3, p3, d3, rfl⟩ := shape' az; have HV : Hid (NdV w7 (.agg #[.bool n.leaf, .slice o1 p1 d1, .slice o2 p2 d2, .slice o3 p3 d3]) n) := Lib.hid ⟨_, _, _, rfl, ax, ay, az⟩; clear ax ay az; have kR7 := k7.blk kR4 hne3 hne4; have H7 := Lib.hid h7; have K7 := Lib.hid (K4.out.trans k7); clear c0 h7 k7 kR4; have c0 := (H7.out.keep0 (gb_alloc w7 (.cells #[.bool n.leaf, .slice o1 p1 d1, .slice o2 p2 d2, .slice o3 p3 d3] 26) none)).c0)
                  | (go_at_call 48; obtain ⟨u7, hu7, kn, gn, hzz⟩ := new1 w7 26 #[.bool n.leaf, .slice o1 p1 d1, .slice o2 p2 d2, .slice o3 p3 d3]; rw [← hu7]; clear hu7 hzz; have hR7 : w.heap.size < w7.heap.size := kR7.lt; replace kR7 := kR7.keep0 gn; (with_reducible refine (end_not b g s rest _ (H7.out.keep0 gn) HLR.out hs).mono ?_); rintro e w8 ⟨a8, rfl, h8, g8⟩; have k8 : Kq b g _ w8 := Kq.of0 g8; have K8 := Lib.hid (((K7.out).trans (Kq.of0 gn)).trans k8); have H8 := Lib.hid h8; clear h8 k8 gn))
                rw [HQ.out]
                exact ⟨rfl, _, _, rfl, .inl ⟨_, rfl⟩, H8.out, K8.out⟩
      · have hz1 : zm = 1 := by omega
        subst hz1
        have HG5 : Hid (gl = if c.toNat = 0 then none else endR (leafR c.toNat r)) := Lib.hid (by rw [HG4.out]; rw [if_pos h1])
        have HZM := Lib.hid hzm
        have HZC := Lib.hid hzc
        by_cases hc0 : c.toNat = 0
        · have hzc0 : zc = 0 := by omega
          subst hzc0
          have HQ : Hid (gl = none) := Lib.hid (by rw [HG5.out, if_pos hc0])
          clear HG5 HG4 hc0
          go_enter Tryz.func35, Tryz.ntmps35
          go_wp2_with (go_at_call 43; rw [← HW.out]; (with_reducible refine (must_ok _ _).mono ?_); rintro e wm ⟨rfl, rfl⟩)
          refine wp_region_held_drew (S := fun w' => w'.cell? ⟨g, 0, none⟩ = some (.pointer (some ⟨b, 0, none⟩))) (by kernel_rfl) (H0.out.keep0 (gb_drew w0 none)).c0 (fun hHeld => ?_)
          refine wpAnyH_take (i := 0) (v := ?_) (List.getElem?_toArray.trans rfl) (by kernel_rfl) (by kernel_rfl) (by kernel_rfl) (fun _ _ _ h => h) (Or.inl ⟨by rfl, ?_⟩) hHeld ?_
          rotate_left
          · intro w' hSw; have c0 := hSw; go_simp; try with_reducible rfl
          try simp only [Act.put, List.setIfInBounds_toArray, List.set_cons_zero, List.set_cons_succ]
          refine wpAnyH_take (i := 1) (v := ?_) (List.getElem?_toArray.trans rfl) (by kernel_rfl) (by kernel_rfl) (by kernel_rfl) (fun _ _ _ h => h) (Or.inl ⟨by rfl, ?_⟩) hHeld ?_
          rotate_left
          · intro w' hSw; have c0 := hSw; go_simp; try with_reducible rfl
          try simp only [Act.put, List.setIfInBounds_toArray, List.set_cons_zero, List.set_cons_succ]
          refine wpAnyH_take (i := 2) (v := ?_) (List.getElem?_toArray.trans rfl) (by kernel_rfl) (by kernel_rfl) (by kernel_rfl) (fun _ _ _ h => h) (Or.inl ⟨by rfl, ?_⟩) hHeld ?_
          rotate_left
          · intro w' hSw; have c0 := hSw; go_simp; try with_reducible rfl
          try simp only [Act.put, List.setIfInBounds_toArray, List.set_cons_zero, List.set_cons_succ]
          refine wpAnyH_take (i := 3) (v := ?_) (List.getElem?_toArray.trans rfl) (by kernel_rfl) (by kernel_rfl) (by kernel_rfl) (fun _ _ _ h => h) (Or.inl ⟨by rfl, ?_⟩) hHeld ?_
          rotate_left
          · intro w' hSw; have c0 := hSw; go_simp; try with_reducible rfl
          try simp only [Act.put, List.setIfInBounds_toArray, List.set_cons_zero, List.set_cons_succ]
          refine wpAnyH_take (i := 8) (v := ?_) (List.getElem?_toArray.trans rfl) (by kernel_rfl) (by kernel_rfl) (by kernel_rfl) (fun _ _ _ h => h) (Or.inl ⟨by rfl, ?_⟩) hHeld ?_
          rotate_left
          · intro w' hSw; have c0 := hSw; go_simp; try with_reducible rfl
          try simp only [Act.put, List.setIfInBounds_toArray, List.set_cons_zero, List.set_cons_succ]
          refine wpAnyH_take (i := 9) (v := ?_) (List.getElem?_toArray.trans rfl) (by kernel_rfl) (by kernel_rfl) (by kernel_rfl) (fun _ _ _ h => h) (Or.inl ⟨by rfl, ?_⟩) hHeld ?_
          rotate_left
          · intro w' hSw; have c0 := hSw; go_simp; try with_reducible rfl
          try simp only [Act.put, List.setIfInBounds_toArray, List.set_cons_zero, List.set_cons_succ]
          refine wpAnyH_take (i := 10) (v := ?_) (List.getElem?_toArray.trans rfl) (by kernel_rfl) (by kernel_rfl) (by kernel_rfl) (fun _ _ _ h => h) (Or.inl ⟨by rfl, ?_⟩) hHeld ?_
          rotate_left
          · intro w' hSw; have c0 := hSw; go_simp; try with_reducible rfl
          try simp only [Act.put, List.setIfInBounds_toArray, List.set_cons_zero, List.set_cons_succ]
          refine wpAnyH_take (i := 11) (v := ?_) (List.getElem?_toArray.trans rfl) (by kernel_rfl) (by kernel_rfl) (by kernel_rfl) (fun _ _ _ h => h) (Or.inl ⟨by rfl, ?_⟩) hHeld ?_
          rotate_left
          · intro w' hSw; have c0 := hSw; go_simp; try with_reducible rfl
          try simp only [Act.put, List.setIfInBounds_toArray, List.set_cons_zero, List.set_cons_succ]
          refine wpAnyH_ready (rs := [4]) (by kernel_rfl) (by simp) ?_
          refine AllReadyH.cons (List.getElem?_toArray.trans rfl) (fun K hK => ?_) AllReadyH.nil
          go_simp
          go_at_call 45
          (with_reducible refine (num8_at b g s m _ hzm (c :: r) _ (H0.out.keep0 (gb_drew w0 none)) hs).mono ?_)
          rintro e w2 ⟨rfl, h2, k2⟩
          replace k2 := (Kq.of0 (gb_drew w0 none)).trans k2
          refine hK.out _ _ (h2.c0) (fun hHeld => ?_)
          clear hK K
          try simp only [Act.put, List.setIfInBounds_toArray, List.set_cons_zero, List.set_cons_succ]
          refine wpAnyH_take (i := 5) (v := ?_) (List.getElem?_toArray.trans rfl) (by kernel_rfl) (by kernel_rfl) (by kernel_rfl) (fun _ _ _ h => h) (Or.inl ⟨by rfl, ?_⟩) hHeld ?_
          rotate_left
          · intro w' hSw; have c0 := hSw; go_simp; try with_reducible rfl
          try simp only [Act.put, List.setIfInBounds_toArray, List.set_cons_zero, List.set_cons_succ]
          refine wpAnyH_take (i := 6) (v := ?_) (List.getElem?_toArray.trans rfl) (by kernel_rfl) (by kernel_rfl) (by kernel_rfl) (fun _ _ _ h => h) (Or.inl ⟨by rfl, ?_⟩) hHeld ?_
          rotate_left
          · intro w' hSw; have c0 := hSw; go_simp; try with_reducible rfl
          try simp only [Act.put, List.setIfInBounds_toArray, List.set_cons_zero, List.set_cons_succ]
          refine wpAnyH_ready (rs := [7]) (by kernel_rfl) (by simp) ?_
          refine AllReadyH.cons (List.getElem?_toArray.trans rfl) (fun K hK => ?_) AllReadyH.nil
          go_simp
          go_at_call 44
          (with_reducible refine (taken_u8 _ _).mono ?_)
          rintro e wt ⟨rfl, rfl⟩
          refine hK.out _ _ (h2.c0) (fun hHeld => ?_)
          clear hK K
          try simp only [Act.put, List.setIfInBounds_toArray, List.set_cons_zero, List.set_cons_succ]
          refine wpAnyH_ready (rs := [12]) (by kernel_rfl) (by simp) ?_
          refine AllReadyH.cons (List.getElem?_toArray.trans rfl) (fun K hK => ?_) AllReadyH.nil
          go_simp
          go_at_call 45
          (with_reducible refine (num8_at b g s c _ hzc r _ h2 hs).mono ?_)
          rintro e w3 ⟨rfl, h3, k3⟩
          refine hK.out _ _ (h3.c0) (fun hHeld => ?_)
          clear hK K
          try simp only [Act.put, List.setIfInBounds_toArray, List.set_cons_zero, List.set_cons_succ]
          refine wpAnyH_take (i := 13) (v := ?_) (List.getElem?_toArray.trans rfl) (by kernel_rfl) (by kernel_rfl) (by kernel_rfl) (fun _ _ _ h => h) (Or.inl ⟨by rfl, ?_⟩) hHeld ?_
          rotate_left
          · intro w' hSw; have c0 := hSw; go_simp; try with_reducible rfl
          try simp only [Act.put, List.setIfInBounds_toArray, List.set_cons_zero, List.set_cons_succ]
          refine wpAnyH_take (i := 14) (v := ?_) (List.getElem?_toArray.trans rfl) (by kernel_rfl) (by kernel_rfl) (by kernel_rfl) (fun _ _ _ h => h) (Or.inl ⟨by rfl, ?_⟩) hHeld ?_
          rotate_left
          · intro w' hSw; have c0 := hSw; go_simp; try with_reducible rfl
          try simp only [Act.put, List.setIfInBounds_toArray, List.set_cons_zero, List.set_cons_succ]
          refine wpAnyH_ready (rs := [15]) (by kernel_rfl) (by simp) ?_
          refine AllReadyH.cons (List.getElem?_toArray.trans rfl) (fun K hK => ?_) AllReadyH.nil
          go_simp
          go_at_call 44
          (with_reducible refine (taken_u8 _ _).mono ?_)
          rintro e wt ⟨rfl, rfl⟩
          refine hK.out _ _ (h3.c0) (fun hHeld => ?_)
          clear hK K
          try simp only [Act.put, List.setIfInBounds_toArray, List.set_cons_zero, List.set_cons_succ]
          refine wpAnyH_take (i := 16) (v := ?_) (List.getElem?_toArray.trans rfl) (by kernel_rfl) (by kernel_rfl) (by kernel_rfl) (fun _ _ _ h => h) (Or.inl ⟨by rfl, ?_⟩) hHeld ?_
          rotate_left
          · intro w' hSw; have c0 := hSw; go_simp; try with_reducible rfl
          try simp only [Act.put, List.setIfInBounds_toArray, List.set_cons_zero, List.set_cons_succ]
          refine wpAnyH_take (i := 17) (v := ?_) (List.getElem?_toArray.trans rfl) (by kernel_rfl) (by kernel_rfl) (by kernel_rfl) (fun _ _ _ h => h) (Or.inl ⟨by rfl, ?_⟩) hHeld ?_
          rotate_left
          · intro w' hSw; have c0 := hSw; go_simp; try with_reducible rfl
          try simp only [Act.put, List.setIfInBounds_toArray, List.set_cons_zero, List.set_cons_succ]
          refine wpAnyH_done (by kernel_rfl) ?_ _
          replace kR := (k2.trans k3).blk kR hne3 hne4
          have K3 := Lib.hid (K0.out.trans (k2.trans k3))
          have H3 := Lib.hid h3
          obtain ⟨bg, c2, f2⟩ := h3.c2
          have c0 := h3.c0
          clear h2 h3 k2 k3 hHeld
          go_wp2_with (first | (go_at_call 43; (with_reducible refine (must_ok _ _).mono ?_); rintro e wm ⟨rfl, rfl⟩) | (go_at_call 43; obtain ⟨u3, hu3⟩ : ∃ u : World, u = w3.setCell ⟨g, 2, none⟩ (.int .i64 1) := ⟨_, rfl⟩; rw [← hu3]; have H4 := Lib.hid (show RG u3 b g s r by rw [hu3]; exact H3.out.set2 1); have gS : w3.grownBy u3 (some g) := (by rw [hu3]; exact gb_set _ _ _ _ _); have K4 := Lib.hid (K3.out.trans (Kq.ofg gS)); have kR4 := kR.keep gS (ne_some hne4); clear hu3 gS c2 f2; (with_reducible refine (must_no _ _).mono ?_); rintro e wm ⟨rfl, rfl⟩))
          rw [HQ.out]
          exact ⟨rfl, _, _, rfl, .inr ⟨_, rfl⟩, H4.out, K4.out⟩
        · have hpos : 0 < zc := by omega
          have HG6 : Hid (gl = endR (leafR c.toNat r)) := Lib.hid (by rw [HG5.out, if_neg hc0])
          obtain ⟨cn, hcn⟩ : ∃ cn : Nat, c.toNat = cn := ⟨_, rfl⟩
          rw [hcn] at HG6 hcb hzc
          subst hzc
          have HREAD : Hid (∀ W, RG W b g s r → Calls Tryz.prog 47 #[.pointer (some ⟨g, 0, none⟩), .int .i64 (cn : Nat)] W (NodeR b g s W (leafR cn r))) := Lib.hid (fun W hW => cells_any b g cn s r W hW hs (by omega))
          have hzc : (c.toNat : Int) = (cn : Int) := by omega
          have q5 : IntKind.i64.wrap (cn : Int) = (cn : Int) := IntWalk.i64_in _ (by omega)
          have q6 : decide (0 < cn) = true := by simp; omega
          have q7 : decide ((0 : Int) < (cn : Int)) = true := by simp; omega
          clear HG5 HG4 hc0 hcn HZC
          cases hrd : leafR cn r with
          | none =>
            rw [hrd] at HREAD HG6
            have HQ : Hid (gl = none) := Lib.hid HG6.out
            clear hrd HG6
            go_enter Tryz.func35, Tryz.ntmps35
            go_wp2_with (go_at_call 43; rw [← HW.out]; (with_reducible refine (must_ok _ _).mono ?_); rintro e wm ⟨rfl, rfl⟩)
            refine wp_region_held_drew (S := fun w' => w'.cell? ⟨g, 0, none⟩ = some (.pointer (some ⟨b, 0, none⟩))) (by kernel_rfl) (H0.out.keep0 (gb_drew w0 none)).c0 (fun hHeld => ?_)
            refine wpAnyH_take (i := 0) (v := ?_) (List.getElem?_toArray.trans rfl) (by kernel_rfl) (by kernel_rfl) (by kernel_rfl) (fun _ _ _ h => h) (Or.inl ⟨by rfl, ?_⟩) hHeld ?_
            rotate_left
            · intro w' hSw; have c0 := hSw; go_simp; try with_reducible rfl
            try simp only [Act.put, List.setIfInBounds_toArray, List.set_cons_zero, List.set_cons_succ]
            refine wpAnyH_take (i := 1) (v := ?_) (List.getElem?_toArray.trans rfl) (by kernel_rfl) (by kernel_rfl) (by kernel_rfl) (fun _ _ _ h => h) (Or.inl ⟨by rfl, ?_⟩) hHeld ?_
            rotate_left
            · intro w' hSw; have c0 := hSw; go_simp; try with_reducible rfl
            try simp only [Act.put, List.setIfInBounds_toArray, List.set_cons_zero, List.set_cons_succ]
            refine wpAnyH_take (i := 2) (v := ?_) (List.getElem?_toArray.trans rfl) (by kernel_rfl) (by kernel_rfl) (by kernel_rfl) (fun _ _ _ h => h) (Or.inl ⟨by rfl, ?_⟩) hHeld ?_
            rotate_left
            · intro w' hSw; have c0 := hSw; go_simp; try with_reducible rfl
            try simp only [Act.put, List.setIfInBounds_toArray, List.set_cons_zero, List.set_cons_succ]
            refine wpAnyH_take (i := 3) (v := ?_) (List.getElem?_toArray.trans rfl) (by kernel_rfl) (by kernel_rfl) (by kernel_rfl) (fun _ _ _ h => h) (Or.inl ⟨by rfl, ?_⟩) hHeld ?_
            rotate_left
            · intro w' hSw; have c0 := hSw; go_simp; try with_reducible rfl
            try simp only [Act.put, List.setIfInBounds_toArray, List.set_cons_zero, List.set_cons_succ]
            refine wpAnyH_take (i := 8) (v := ?_) (List.getElem?_toArray.trans rfl) (by kernel_rfl) (by kernel_rfl) (by kernel_rfl) (fun _ _ _ h => h) (Or.inl ⟨by rfl, ?_⟩) hHeld ?_
            rotate_left
            · intro w' hSw; have c0 := hSw; go_simp; try with_reducible rfl
            try simp only [Act.put, List.setIfInBounds_toArray, List.set_cons_zero, List.set_cons_succ]
            refine wpAnyH_take (i := 9) (v := ?_) (List.getElem?_toArray.trans rfl) (by kernel_rfl) (by kernel_rfl) (by kernel_rfl) (fun _ _ _ h => h) (Or.inl ⟨by rfl, ?_⟩) hHeld ?_
            rotate_left
            · intro w' hSw; have c0 := hSw; go_simp; try with_reducible rfl
            try simp only [Act.put, List.setIfInBounds_toArray, List.set_cons_zero, List.set_cons_succ]
            refine wpAnyH_take (i := 10) (v := ?_) (List.getElem?_toArray.trans rfl) (by kernel_rfl) (by kernel_rfl) (by kernel_rfl) (fun _ _ _ h => h) (Or.inl ⟨by rfl, ?_⟩) hHeld ?_
            rotate_left
            · intro w' hSw; have c0 := hSw; go_simp; try with_reducible rfl
            try simp only [Act.put, List.setIfInBounds_toArray, List.set_cons_zero, List.set_cons_succ]
            refine wpAnyH_take (i := 11) (v := ?_) (List.getElem?_toArray.trans rfl) (by kernel_rfl) (by kernel_rfl) (by kernel_rfl) (fun _ _ _ h => h) (Or.inl ⟨by rfl, ?_⟩) hHeld ?_
            rotate_left
            · intro w' hSw; have c0 := hSw; go_simp; try with_reducible rfl
            try simp only [Act.put, List.setIfInBounds_toArray, List.set_cons_zero, List.set_cons_succ]
            refine wpAnyH_ready (rs := [4]) (by kernel_rfl) (by simp) ?_
            refine AllReadyH.cons (List.getElem?_toArray.trans rfl) (fun K hK => ?_) AllReadyH.nil
            go_simp
            go_at_call 45
            (with_reducible refine (num8_at b g s m _ hzm (c :: r) _ (H0.out.keep0 (gb_drew w0 none)) hs).mono ?_)
            rintro e w2 ⟨rfl, h2, k2⟩
            replace k2 := (Kq.of0 (gb_drew w0 none)).trans k2
            refine hK.out _ _ (h2.c0) (fun hHeld => ?_)
            clear hK K
            try simp only [Act.put, List.setIfInBounds_toArray, List.set_cons_zero, List.set_cons_succ]
            refine wpAnyH_take (i := 5) (v := ?_) (List.getElem?_toArray.trans rfl) (by kernel_rfl) (by kernel_rfl) (by kernel_rfl) (fun _ _ _ h => h) (Or.inl ⟨by rfl, ?_⟩) hHeld ?_
            rotate_left
            · intro w' hSw; have c0 := hSw; go_simp; try with_reducible rfl
            try simp only [Act.put, List.setIfInBounds_toArray, List.set_cons_zero, List.set_cons_succ]
            refine wpAnyH_take (i := 6) (v := ?_) (List.getElem?_toArray.trans rfl) (by kernel_rfl) (by kernel_rfl) (by kernel_rfl) (fun _ _ _ h => h) (Or.inl ⟨by rfl, ?_⟩) hHeld ?_
            rotate_left
            · intro w' hSw; have c0 := hSw; go_simp; try with_reducible rfl
            try simp only [Act.put, List.setIfInBounds_toArray, List.set_cons_zero, List.set_cons_succ]
            refine wpAnyH_ready (rs := [7]) (by kernel_rfl) (by simp) ?_
            refine AllReadyH.cons (List.getElem?_toArray.trans rfl) (fun K hK => ?_) AllReadyH.nil
            go_simp
            go_at_call 44
            (with_reducible refine (taken_u8 _ _).mono ?_)
            rintro e wt ⟨rfl, rfl⟩
            refine hK.out _ _ (h2.c0) (fun hHeld => ?_)
            clear hK K
            try simp only [Act.put, List.setIfInBounds_toArray, List.set_cons_zero, List.set_cons_succ]
            refine wpAnyH_ready (rs := [12]) (by kernel_rfl) (by simp) ?_
            refine AllReadyH.cons (List.getElem?_toArray.trans rfl) (fun K hK => ?_) AllReadyH.nil
            go_simp
            go_at_call 45
            (with_reducible refine (num8_at b g s c _ hzc r _ h2 hs).mono ?_)
            rintro e w3 ⟨rfl, h3, k3⟩
            refine hK.out _ _ (h3.c0) (fun hHeld => ?_)
            clear hK K
            try simp only [Act.put, List.setIfInBounds_toArray, List.set_cons_zero, List.set_cons_succ]
            refine wpAnyH_take (i := 13) (v := ?_) (List.getElem?_toArray.trans rfl) (by kernel_rfl) (by kernel_rfl) (by kernel_rfl) (fun _ _ _ h => h) (Or.inl ⟨by rfl, ?_⟩) hHeld ?_
            rotate_left
            · intro w' hSw; have c0 := hSw; go_simp; try with_reducible rfl
            try simp only [Act.put, List.setIfInBounds_toArray, List.set_cons_zero, List.set_cons_succ]
            refine wpAnyH_take (i := 14) (v := ?_) (List.getElem?_toArray.trans rfl) (by kernel_rfl) (by kernel_rfl) (by kernel_rfl) (fun _ _ _ h => h) (Or.inl ⟨by rfl, ?_⟩) hHeld ?_
            rotate_left
            · intro w' hSw; have c0 := hSw; go_simp; try with_reducible rfl
            try simp only [Act.put, List.setIfInBounds_toArray, List.set_cons_zero, List.set_cons_succ]
            refine wpAnyH_ready (rs := [15]) (by kernel_rfl) (by simp) ?_
            refine AllReadyH.cons (List.getElem?_toArray.trans rfl) (fun K hK => ?_) AllReadyH.nil
            go_simp
            go_at_call 44
            (with_reducible refine (taken_u8 _ _).mono ?_)
            rintro e wt ⟨rfl, rfl⟩
            refine hK.out _ _ (h3.c0) (fun hHeld => ?_)
            clear hK K
            try simp only [Act.put, List.setIfInBounds_toArray, List.set_cons_zero, List.set_cons_succ]
            refine wpAnyH_take (i := 16) (v := ?_) (List.getElem?_toArray.trans rfl) (by kernel_rfl) (by kernel_rfl) (by kernel_rfl) (fun _ _ _ h => h) (Or.inl ⟨by rfl, ?_⟩) hHeld ?_
            rotate_left
            · intro w' hSw; have c0 := hSw; go_simp; try with_reducible rfl
            try simp only [Act.put, List.setIfInBounds_toArray, List.set_cons_zero, List.set_cons_succ]
            refine wpAnyH_take (i := 17) (v := ?_) (List.getElem?_toArray.trans rfl) (by kernel_rfl) (by kernel_rfl) (by kernel_rfl) (fun _ _ _ h => h) (Or.inl ⟨by rfl, ?_⟩) hHeld ?_
            rotate_left
            · intro w' hSw; have c0 := hSw; go_simp; try with_reducible rfl
            try simp only [Act.put, List.setIfInBounds_toArray, List.set_cons_zero, List.set_cons_succ]
            refine wpAnyH_done (by kernel_rfl) ?_ _
            replace kR := (k2.trans k3).blk kR hne3 hne4
            have K3 := Lib.hid (K0.out.trans (k2.trans k3))
            have H3 := Lib.hid h3
            obtain ⟨bg, c2, f2⟩ := h3.c2
            have c0 := h3.c0
            clear h2 h3 k2 k3 hHeld
            go_wp2_with (first
              | (go_at_call 43; first
                  | ((with_reducible refine (must_ok 6 _).mono ?_); rintro e wm ⟨rfl, rfl⟩)
                  | (obtain ⟨u3, hu3⟩ : ∃ u : World, u = w3.setCell ⟨g, 2, none⟩ (.int .i64 1) := ⟨_, rfl⟩; rw [← hu3]; have H4 := Lib.hid (show RG u3 b g s r by rw [hu3]; exact H3.out.set2 1); have gS : w3.grownBy u3 (some g) := (by rw [hu3]; exact gb_set _ _ _ _ _); have K4 := Lib.hid (K3.out.trans (Kq.ofg gS)); have kR4 := kR.keep gS (ne_some hne4); clear hu3 gS c2 f2; (with_reducible refine (must_ok 2 _).mono ?_); rintro e wm ⟨rfl, rfl⟩))
              | (go_at_call 47; (with_reducible refine (HREAD.out _ H4.out).mono ?_); rintro e w7 ⟨pv, l7, rfl, hw, h7, k7⟩))
            rw [HQ.out]
            exact ⟨rfl, pv, l7, rfl, hw, h7, K4.out.trans k7⟩
          | some x =>
            obtain ⟨n, rest⟩ := x
            rw [hrd] at HREAD HG6
            clear hrd
            by_cases hlr : rest.length = 0
            · have hr0 : rest = [] := List.eq_nil_of_length_eq_zero hlr
              subst hr0
              have HQ : Hid (gl = some n) := Lib.hid (by rw [HG6.out]; rfl)
              clear hlr HG6
              go_enter Tryz.func35, Tryz.ntmps35
              go_wp2_with (go_at_call 43; rw [← HW.out]; (with_reducible refine (must_ok _ _).mono ?_); rintro e wm ⟨rfl, rfl⟩)
              refine wp_region_held_drew (S := fun w' => w'.cell? ⟨g, 0, none⟩ = some (.pointer (some ⟨b, 0, none⟩))) (by kernel_rfl) (H0.out.keep0 (gb_drew w0 none)).c0 (fun hHeld => ?_)
              refine wpAnyH_take (i := 0) (v := ?_) (List.getElem?_toArray.trans rfl) (by kernel_rfl) (by kernel_rfl) (by kernel_rfl) (fun _ _ _ h => h) (Or.inl ⟨by rfl, ?_⟩) hHeld ?_
              rotate_left
              · intro w' hSw; have c0 := hSw; go_simp; try with_reducible rfl
              try simp only [Act.put, List.setIfInBounds_toArray, List.set_cons_zero, List.set_cons_succ]
              refine wpAnyH_take (i := 1) (v := ?_) (List.getElem?_toArray.trans rfl) (by kernel_rfl) (by kernel_rfl) (by kernel_rfl) (fun _ _ _ h => h) (Or.inl ⟨by rfl, ?_⟩) hHeld ?_
              rotate_left
              · intro w' hSw; have c0 := hSw; go_simp; try with_reducible rfl
              try simp only [Act.put, List.setIfInBounds_toArray, List.set_cons_zero, List.set_cons_succ]
              refine wpAnyH_take (i := 2) (v := ?_) (List.getElem?_toArray.trans rfl) (by kernel_rfl) (by kernel_rfl) (by kernel_rfl) (fun _ _ _ h => h) (Or.inl ⟨by rfl, ?_⟩) hHeld ?_
              rotate_left
              · intro w' hSw; have c0 := hSw; go_simp; try with_reducible rfl
              try simp only [Act.put, List.setIfInBounds_toArray, List.set_cons_zero, List.set_cons_succ]
              refine wpAnyH_take (i := 3) (v := ?_) (List.getElem?_toArray.trans rfl) (by kernel_rfl) (by kernel_rfl) (by kernel_rfl) (fun _ _ _ h => h) (Or.inl ⟨by rfl, ?_⟩) hHeld ?_
              rotate_left
              · intro w' hSw; have c0 := hSw; go_simp; try with_reducible rfl
              try simp only [Act.put, List.setIfInBounds_toArray, List.set_cons_zero, List.set_cons_succ]
              refine wpAnyH_take (i := 8) (v := ?_) (List.getElem?_toArray.trans rfl) (by kernel_rfl) (by kernel_rfl) (by kernel_rfl) (fun _ _ _ h => h) (Or.inl ⟨by rfl, ?_⟩) hHeld ?_
              rotate_left
              · intro w' hSw; have c0 := hSw; go_simp; try with_reducible rfl
              try simp only [Act.put, List.setIfInBounds_toArray, List.set_cons_zero, List.set_cons_succ]
              refine wpAnyH_take (i := 9) (v := ?_) (List.getElem?_toArray.trans rfl) (by kernel_rfl) (by kernel_rfl) (by kernel_rfl) (fun _ _ _ h => h) (Or.inl ⟨by rfl, ?_⟩) hHeld ?_
              rotate_left
              · intro w' hSw; have c0 := hSw; go_simp; try with_reducible rfl
              try simp only [Act.put, List.setIfInBounds_toArray, List.set_cons_zero, List.set_cons_succ]
              refine wpAnyH_take (i := 10) (v := ?_) (List.getElem?_toArray.trans rfl) (by kernel_rfl) (by kernel_rfl) (by kernel_rfl) (fun _ _ _ h => h) (Or.inl ⟨by rfl, ?_⟩) hHeld ?_
              rotate_left
              · intro w' hSw; have c0 := hSw; go_simp; try with_reducible rfl
              try simp only [Act.put, List.setIfInBounds_toArray, List.set_cons_zero, List.set_cons_succ]
              refine wpAnyH_take (i := 11) (v := ?_) (List.getElem?_toArray.trans rfl) (by kernel_rfl) (by kernel_rfl) (by kernel_rfl) (fun _ _ _ h => h) (Or.inl ⟨by rfl, ?_⟩) hHeld ?_
              rotate_left
              · intro w' hSw; have c0 := hSw; go_simp; try with_reducible rfl
              try simp only [Act.put, List.setIfInBounds_toArray, List.set_cons_zero, List.set_cons_succ]
              refine wpAnyH_ready (rs := [4]) (by kernel_rfl) (by simp) ?_
              refine AllReadyH.cons (List.getElem?_toArray.trans rfl) (fun K hK => ?_) AllReadyH.nil
              go_simp
              go_at_call 45
              (with_reducible refine (num8_at b g s m _ hzm (c :: r) _ (H0.out.keep0 (gb_drew w0 none)) hs).mono ?_)
              rintro e w2 ⟨rfl, h2, k2⟩
              replace k2 := (Kq.of0 (gb_drew w0 none)).trans k2
              refine hK.out _ _ (h2.c0) (fun hHeld => ?_)
              clear hK K
              try simp only [Act.put, List.setIfInBounds_toArray, List.set_cons_zero, List.set_cons_succ]
              refine wpAnyH_take (i := 5) (v := ?_) (List.getElem?_toArray.trans rfl) (by kernel_rfl) (by kernel_rfl) (by kernel_rfl) (fun _ _ _ h => h) (Or.inl ⟨by rfl, ?_⟩) hHeld ?_
              rotate_left
              · intro w' hSw; have c0 := hSw; go_simp; try with_reducible rfl
              try simp only [Act.put, List.setIfInBounds_toArray, List.set_cons_zero, List.set_cons_succ]
              refine wpAnyH_take (i := 6) (v := ?_) (List.getElem?_toArray.trans rfl) (by kernel_rfl) (by kernel_rfl) (by kernel_rfl) (fun _ _ _ h => h) (Or.inl ⟨by rfl, ?_⟩) hHeld ?_
              rotate_left
              · intro w' hSw; have c0 := hSw; go_simp; try with_reducible rfl
              try simp only [Act.put, List.setIfInBounds_toArray, List.set_cons_zero, List.set_cons_succ]
              refine wpAnyH_ready (rs := [7]) (by kernel_rfl) (by simp) ?_
              refine AllReadyH.cons (List.getElem?_toArray.trans rfl) (fun K hK => ?_) AllReadyH.nil
              go_simp
              go_at_call 44
              (with_reducible refine (taken_u8 _ _).mono ?_)
              rintro e wt ⟨rfl, rfl⟩
              refine hK.out _ _ (h2.c0) (fun hHeld => ?_)
              clear hK K
              try simp only [Act.put, List.setIfInBounds_toArray, List.set_cons_zero, List.set_cons_succ]
              refine wpAnyH_ready (rs := [12]) (by kernel_rfl) (by simp) ?_
              refine AllReadyH.cons (List.getElem?_toArray.trans rfl) (fun K hK => ?_) AllReadyH.nil
              go_simp
              go_at_call 45
              (with_reducible refine (num8_at b g s c _ hzc r _ h2 hs).mono ?_)
              rintro e w3 ⟨rfl, h3, k3⟩
              refine hK.out _ _ (h3.c0) (fun hHeld => ?_)
              clear hK K
              try simp only [Act.put, List.setIfInBounds_toArray, List.set_cons_zero, List.set_cons_succ]
              refine wpAnyH_take (i := 13) (v := ?_) (List.getElem?_toArray.trans rfl) (by kernel_rfl) (by kernel_rfl) (by kernel_rfl) (fun _ _ _ h => h) (Or.inl ⟨by rfl, ?_⟩) hHeld ?_
              rotate_left
              · intro w' hSw; have c0 := hSw; go_simp; try with_reducible rfl
              try simp only [Act.put, List.setIfInBounds_toArray, List.set_cons_zero, List.set_cons_succ]
              refine wpAnyH_take (i := 14) (v := ?_) (List.getElem?_toArray.trans rfl) (by kernel_rfl) (by kernel_rfl) (by kernel_rfl) (fun _ _ _ h => h) (Or.inl ⟨by rfl, ?_⟩) hHeld ?_
              rotate_left
              · intro w' hSw; have c0 := hSw; go_simp; try with_reducible rfl
              try simp only [Act.put, List.setIfInBounds_toArray, List.set_cons_zero, List.set_cons_succ]
              refine wpAnyH_ready (rs := [15]) (by kernel_rfl) (by simp) ?_
              refine AllReadyH.cons (List.getElem?_toArray.trans rfl) (fun K hK => ?_) AllReadyH.nil
              go_simp
              go_at_call 44
              (with_reducible refine (taken_u8 _ _).mono ?_)
              rintro e wt ⟨rfl, rfl⟩
              refine hK.out _ _ (h3.c0) (fun hHeld => ?_)
              clear hK K
              try simp only [Act.put, List.setIfInBounds_toArray, List.set_cons_zero, List.set_cons_succ]
              refine wpAnyH_take (i := 16) (v := ?_) (List.getElem?_toArray.trans rfl) (by kernel_rfl) (by kernel_rfl) (by kernel_rfl) (fun _ _ _ h => h) (Or.inl ⟨by rfl, ?_⟩) hHeld ?_
              rotate_left
              · intro w' hSw; have c0 := hSw; go_simp; try with_reducible rfl
              try simp only [Act.put, List.setIfInBounds_toArray, List.set_cons_zero, List.set_cons_succ]
              refine wpAnyH_take (i := 17) (v := ?_) (List.getElem?_toArray.trans rfl) (by kernel_rfl) (by kernel_rfl) (by kernel_rfl) (fun _ _ _ h => h) (Or.inl ⟨by rfl, ?_⟩) hHeld ?_
              rotate_left
              · intro w' hSw; have c0 := hSw; go_simp; try with_reducible rfl
              try simp only [Act.put, List.setIfInBounds_toArray, List.set_cons_zero, List.set_cons_succ]
              refine wpAnyH_done (by kernel_rfl) ?_ _
              replace kR := (k2.trans k3).blk kR hne3 hne4
              have K3 := Lib.hid (K0.out.trans (k2.trans k3))
              have H3 := Lib.hid h3
              obtain ⟨bg, c2, f2⟩ := h3.c2
              have c0 := h3.c0
              clear h2 h3 k2 k3 hHeld
              go_wp2_with (first
                | (go_at_call 43; first
                    | ((with_reducible refine (must_ok 6 _).mono ?_); rintro e wm ⟨rfl, rfl⟩)
                    | (obtain ⟨u3, hu3⟩ : ∃ u : World, u = w3.setCell ⟨g, 2, none⟩ (.int .i64 1) := ⟨_, rfl⟩; rw [← hu3]; have H4 := Lib.hid (show RG u3 b g s r by rw [hu3]; exact H3.out.set2 1); have gS : w3.grownBy u3 (some g) := (by rw [hu3]; exact gb_set _ _ _ _ _); have K4 := Lib.hid (K3.out.trans (Kq.ofg gS)); have kR4 := kR.keep gS (ne_some hne4); clear hu3 gS c2 f2; (with_reducible refine (must_ok 2 _).mono ?_); rintro e wm ⟨rfl, rfl⟩))
                | (go_at_call 47; (with_reducible refine (HREAD.out _ H4.out).mono ?_); rintro e w7 ⟨v7, rfl, hv7, h7, k7⟩; obtain ⟨x1, y1, z1, rfl, ax, ay, az⟩ := hv7; obtain ⟨o1, p1, d1, rfl⟩ := shape' ax; obtain ⟨o2, p2, d2, rfl⟩ := shape' ay; obtain ⟨o3, p3, d3, rfl⟩ := shape' az; have HV : Hid (NdV w7 (.agg #[.bool n.leaf, .slice o1 p1 d1, .slice o2 p2 d2, .slice o3 p3 d3]) n) := Lib.hid ⟨_, _, _, rfl, ax, ay, az⟩; clear ax ay az; have kR7 := k7.blk kR4 hne3 hne4; have H7 := Lib.hid h7; have K7 := Lib.hid (K4.out.trans k7); clear c0 h7 k7 kR4; have c0 := (H7.out.keep0 (gb_alloc w7 (.cells #[.bool n.leaf, .slice o1 p1 d1, .slice o2 p2 d2, .slice o3 p3 d3] 26) none)).c0)
                | (go_at_call 48; obtain ⟨u7, hu7, kn, gn, hzz⟩ := new1 w7 26 #[.bool n.leaf, .slice o1 p1 d1, .slice o2 p2 d2, .slice o3 p3 d3]; rw [← hu7]; clear hu7 hzz; have hR7 : w.heap.size < w7.heap.size := kR7.lt; replace kR7 := kR7.keep0 gn; (with_reducible refine (end_got b g s _ (H7.out.keep0 gn) hs).mono ?_); rintro e w8 ⟨rfl, h8, g8⟩; have k8 : Kq b g _ w8 := Kq.of0 g8; have hb8 : w7.heap.size ≠ b := (by omega); have hg8 : w7.heap.size ≠ g := (by omega); replace kn := k8.blk kn hb8 hg8; replace kR7 := k8.blk kR7 hne3 hne4; have K8 := Lib.hid (((K7.out).trans (Kq.of0 gn)).trans k8); have r0 := kn.cell 0 rfl; have r1 := kn.cell 1 rfl; have r2 := kn.cell 2 rfl; have r3 := kn.cell 3 rfl; have HV8 : Hid (NdV w8 (.agg #[.bool n.leaf, .slice o1 p1 d1, .slice o2 p2 d2, .slice o3 p3 d3]) n) := Lib.hid ((HV.out.keep0 gn).keep0 g8); clear h8 k8 g8 gn)
                | ((with_reducible refine st_node rfl w.heap.size 26 ?_ ?_ ?_ ?_ ?_ ?_ ?_ ?_ ?_ ?_ ?_ ?_ _ _ _ _ kR7 ?_); rotate_left 10; (· rfl); (· rfl); intro w9 n9 g9))
              refine bodyPost_ret (results_c rfl _ _ _ _ _ _ _ rfl n9) rfl ?_
              rw [HQ.out]
              exact ⟨_, rfl, HV8.out.keepN (Nbl.node kR7) g9, K8.out.step g9 (Nat.le_refl _)⟩
            · have HQ : Hid (gl = none) := Lib.hid (by rw [HG6.out]; unfold endR; rw [Option.bind_some]; exact if_neg hlr)
              have HLR := Lib.hid hlr
              clear hlr HG6
              go_enter Tryz.func35, Tryz.ntmps35
              go_wp2_with (go_at_call 43; rw [← HW.out]; (with_reducible refine (must_ok _ _).mono ?_); rintro e wm ⟨rfl, rfl⟩)
              refine wp_region_held_drew (S := fun w' => w'.cell? ⟨g, 0, none⟩ = some (.pointer (some ⟨b, 0, none⟩))) (by kernel_rfl) (H0.out.keep0 (gb_drew w0 none)).c0 (fun hHeld => ?_)
              refine wpAnyH_take (i := 0) (v := ?_) (List.getElem?_toArray.trans rfl) (by kernel_rfl) (by kernel_rfl) (by kernel_rfl) (fun _ _ _ h => h) (Or.inl ⟨by rfl, ?_⟩) hHeld ?_
              rotate_left
              · intro w' hSw; have c0 := hSw; go_simp; try with_reducible rfl
              try simp only [Act.put, List.setIfInBounds_toArray, List.set_cons_zero, List.set_cons_succ]
              refine wpAnyH_take (i := 1) (v := ?_) (List.getElem?_toArray.trans rfl) (by kernel_rfl) (by kernel_rfl) (by kernel_rfl) (fun _ _ _ h => h) (Or.inl ⟨by rfl, ?_⟩) hHeld ?_
              rotate_left
              · intro w' hSw; have c0 := hSw; go_simp; try with_reducible rfl
              try simp only [Act.put, List.setIfInBounds_toArray, List.set_cons_zero, List.set_cons_succ]
              refine wpAnyH_take (i := 2) (v := ?_) (List.getElem?_toArray.trans rfl) (by kernel_rfl) (by kernel_rfl) (by kernel_rfl) (fun _ _ _ h => h) (Or.inl ⟨by rfl, ?_⟩) hHeld ?_
              rotate_left
              · intro w' hSw; have c0 := hSw; go_simp; try with_reducible rfl
              try simp only [Act.put, List.setIfInBounds_toArray, List.set_cons_zero, List.set_cons_succ]
              refine wpAnyH_take (i := 3) (v := ?_) (List.getElem?_toArray.trans rfl) (by kernel_rfl) (by kernel_rfl) (by kernel_rfl) (fun _ _ _ h => h) (Or.inl ⟨by rfl, ?_⟩) hHeld ?_
              rotate_left
              · intro w' hSw; have c0 := hSw; go_simp; try with_reducible rfl
              try simp only [Act.put, List.setIfInBounds_toArray, List.set_cons_zero, List.set_cons_succ]
              refine wpAnyH_take (i := 8) (v := ?_) (List.getElem?_toArray.trans rfl) (by kernel_rfl) (by kernel_rfl) (by kernel_rfl) (fun _ _ _ h => h) (Or.inl ⟨by rfl, ?_⟩) hHeld ?_
              rotate_left
              · intro w' hSw; have c0 := hSw; go_simp; try with_reducible rfl
              try simp only [Act.put, List.setIfInBounds_toArray, List.set_cons_zero, List.set_cons_succ]
              refine wpAnyH_take (i := 9) (v := ?_) (List.getElem?_toArray.trans rfl) (by kernel_rfl) (by kernel_rfl) (by kernel_rfl) (fun _ _ _ h => h) (Or.inl ⟨by rfl, ?_⟩) hHeld ?_
              rotate_left
              · intro w' hSw; have c0 := hSw; go_simp; try with_reducible rfl
              try simp only [Act.put, List.setIfInBounds_toArray, List.set_cons_zero, List.set_cons_succ]
              refine wpAnyH_take (i := 10) (v := ?_) (List.getElem?_toArray.trans rfl) (by kernel_rfl) (by kernel_rfl) (by kernel_rfl) (fun _ _ _ h => h) (Or.inl ⟨by rfl, ?_⟩) hHeld ?_
              rotate_left
              · intro w' hSw; have c0 := hSw; go_simp; try with_reducible rfl
              try simp only [Act.put, List.setIfInBounds_toArray, List.set_cons_zero, List.set_cons_succ]
              refine wpAnyH_take (i := 11) (v := ?_) (List.getElem?_toArray.trans rfl) (by kernel_rfl) (by kernel_rfl) (by kernel_rfl) (fun _ _ _ h => h) (Or.inl ⟨by rfl, ?_⟩) hHeld ?_
              rotate_left
              · intro w' hSw; have c0 := hSw; go_simp; try with_reducible rfl
              try simp only [Act.put, List.setIfInBounds_toArray, List.set_cons_zero, List.set_cons_succ]
              refine wpAnyH_ready (rs := [4]) (by kernel_rfl) (by simp) ?_
              refine AllReadyH.cons (List.getElem?_toArray.trans rfl) (fun K hK => ?_) AllReadyH.nil
              go_simp
              go_at_call 45
              (with_reducible refine (num8_at b g s m _ hzm (c :: r) _ (H0.out.keep0 (gb_drew w0 none)) hs).mono ?_)
              rintro e w2 ⟨rfl, h2, k2⟩
              replace k2 := (Kq.of0 (gb_drew w0 none)).trans k2
              refine hK.out _ _ (h2.c0) (fun hHeld => ?_)
              clear hK K
              try simp only [Act.put, List.setIfInBounds_toArray, List.set_cons_zero, List.set_cons_succ]
              refine wpAnyH_take (i := 5) (v := ?_) (List.getElem?_toArray.trans rfl) (by kernel_rfl) (by kernel_rfl) (by kernel_rfl) (fun _ _ _ h => h) (Or.inl ⟨by rfl, ?_⟩) hHeld ?_
              rotate_left
              · intro w' hSw; have c0 := hSw; go_simp; try with_reducible rfl
              try simp only [Act.put, List.setIfInBounds_toArray, List.set_cons_zero, List.set_cons_succ]
              refine wpAnyH_take (i := 6) (v := ?_) (List.getElem?_toArray.trans rfl) (by kernel_rfl) (by kernel_rfl) (by kernel_rfl) (fun _ _ _ h => h) (Or.inl ⟨by rfl, ?_⟩) hHeld ?_
              rotate_left
              · intro w' hSw; have c0 := hSw; go_simp; try with_reducible rfl
              try simp only [Act.put, List.setIfInBounds_toArray, List.set_cons_zero, List.set_cons_succ]
              refine wpAnyH_ready (rs := [7]) (by kernel_rfl) (by simp) ?_
              refine AllReadyH.cons (List.getElem?_toArray.trans rfl) (fun K hK => ?_) AllReadyH.nil
              go_simp
              go_at_call 44
              (with_reducible refine (taken_u8 _ _).mono ?_)
              rintro e wt ⟨rfl, rfl⟩
              refine hK.out _ _ (h2.c0) (fun hHeld => ?_)
              clear hK K
              try simp only [Act.put, List.setIfInBounds_toArray, List.set_cons_zero, List.set_cons_succ]
              refine wpAnyH_ready (rs := [12]) (by kernel_rfl) (by simp) ?_
              refine AllReadyH.cons (List.getElem?_toArray.trans rfl) (fun K hK => ?_) AllReadyH.nil
              go_simp
              go_at_call 45
              (with_reducible refine (num8_at b g s c _ hzc r _ h2 hs).mono ?_)
              rintro e w3 ⟨rfl, h3, k3⟩
              refine hK.out _ _ (h3.c0) (fun hHeld => ?_)
              clear hK K
              try simp only [Act.put, List.setIfInBounds_toArray, List.set_cons_zero, List.set_cons_succ]
              refine wpAnyH_take (i := 13) (v := ?_) (List.getElem?_toArray.trans rfl) (by kernel_rfl) (by kernel_rfl) (by kernel_rfl) (fun _ _ _ h => h) (Or.inl ⟨by rfl, ?_⟩) hHeld ?_
              rotate_left
              · intro w' hSw; have c0 := hSw; go_simp; try with_reducible rfl
              try simp only [Act.put, List.setIfInBounds_toArray, List.set_cons_zero, List.set_cons_succ]
              refine wpAnyH_take (i := 14) (v := ?_) (List.getElem?_toArray.trans rfl) (by kernel_rfl) (by kernel_rfl) (by kernel_rfl) (fun _ _ _ h => h) (Or.inl ⟨by rfl, ?_⟩) hHeld ?_
              rotate_left
              · intro w' hSw; have c0 := hSw; go_simp; try with_reducible rfl
              try simp only [Act.put, List.setIfInBounds_toArray, List.set_cons_zero, List.set_cons_succ]
              refine wpAnyH_ready (rs := [15]) (by kernel_rfl) (by simp) ?_
              refine AllReadyH.cons (List.getElem?_toArray.trans rfl) (fun K hK => ?_) AllReadyH.nil
              go_simp
              go_at_call 44
              (with_reducible refine (taken_u8 _ _).mono ?_)
              rintro e wt ⟨rfl, rfl⟩
              refine hK.out _ _ (h3.c0) (fun hHeld => ?_)
              clear hK K
              try simp only [Act.put, List.setIfInBounds_toArray, List.set_cons_zero, List.set_cons_succ]
              refine wpAnyH_take (i := 16) (v := ?_) (List.getElem?_toArray.trans rfl) (by kernel_rfl) (by kernel_rfl) (by kernel_rfl) (fun _ _ _ h => h) (Or.inl ⟨by rfl, ?_⟩) hHeld ?_
              rotate_left
              · intro w' hSw; have c0 := hSw; go_simp; try with_reducible rfl
              try simp only [Act.put, List.setIfInBounds_toArray, List.set_cons_zero, List.set_cons_succ]
              refine wpAnyH_take (i := 17) (v := ?_) (List.getElem?_toArray.trans rfl) (by kernel_rfl) (by kernel_rfl) (by kernel_rfl) (fun _ _ _ h => h) (Or.inl ⟨by rfl, ?_⟩) hHeld ?_
              rotate_left
              · intro w' hSw; have c0 := hSw; go_simp; try with_reducible rfl
              try simp only [Act.put, List.setIfInBounds_toArray, List.set_cons_zero, List.set_cons_succ]
              refine wpAnyH_done (by kernel_rfl) ?_ _
              replace kR := (k2.trans k3).blk kR hne3 hne4
              have K3 := Lib.hid (K0.out.trans (k2.trans k3))
              have H3 := Lib.hid h3
              obtain ⟨bg, c2, f2⟩ := h3.c2
              have c0 := h3.c0
              clear h2 h3 k2 k3 hHeld
              go_wp2_with (first
                | (go_at_call 43; first
                    | ((with_reducible refine (must_ok 6 _).mono ?_); rintro e wm ⟨rfl, rfl⟩)
                    | (obtain ⟨u3, hu3⟩ : ∃ u : World, u = w3.setCell ⟨g, 2, none⟩ (.int .i64 1) := ⟨_, rfl⟩; rw [← hu3]; have H4 := Lib.hid (show RG u3 b g s r by rw [hu3]; exact H3.out.set2 1); have gS : w3.grownBy u3 (some g) := (by rw [hu3]; exact gb_set _ _ _ _ _); have K4 := Lib.hid (K3.out.trans (Kq.ofg gS)); have kR4 := kR.keep gS (ne_some hne4); clear hu3 gS c2 f2; (with_reducible refine (must_ok 2 _).mono ?_); rintro e wm ⟨rfl, rfl⟩))
                | (go_at_call 47; (with_reducible refine (HREAD.out _ H4.out).mono ?_); rintro e w7 ⟨v7, rfl, hv7, h7, k7⟩; obtain ⟨x1, y1, z1, rfl, ax, ay, az⟩ := hv7; obtain ⟨o1, p1, d1, rfl⟩ := shape' ax; obtain ⟨o2, p2, d2, rfl⟩ := shape' ay; obtain ⟨o3, p3, d3, rfl⟩ := shape' az; have HV : Hid (NdV w7 (.agg #[.bool n.leaf, .slice o1 p1 d1, .slice o2 p2 d2, .slice o3 p3 d3]) n) := Lib.hid ⟨_, _, _, rfl, ax, ay, az⟩; clear ax ay az; have kR7 := k7.blk kR4 hne3 hne4; have H7 := Lib.hid h7; have K7 := Lib.hid (K4.out.trans k7); clear c0 h7 k7 kR4; have c0 := (H7.out.keep0 (gb_alloc w7 (.cells #[.bool n.leaf, .slice o1 p1 d1, .slice o2 p2 d2, .slice o3 p3 d3] 26) none)).c0)
                | (go_at_call 48; obtain ⟨u7, hu7, kn, gn, hzz⟩ := new1 w7 26 #[.bool n.leaf, .slice o1 p1 d1, .slice o2 p2 d2, .slice o3 p3 d3]; rw [← hu7]; clear hu7 hzz; have hR7 : w.heap.size < w7.heap.size := kR7.lt; replace kR7 := kR7.keep0 gn; (with_reducible refine (end_not b g s rest _ (H7.out.keep0 gn) HLR.out hs).mono ?_); rintro e w8 ⟨a8, rfl, h8, g8⟩; have k8 : Kq b g _ w8 := Kq.of0 g8; have K8 := Lib.hid (((K7.out).trans (Kq.of0 gn)).trans k8); have H8 := Lib.hid h8; clear h8 k8 gn))
              rw [HQ.out]
              exact ⟨rfl, _, _, rfl, .inl ⟨_, rfl⟩, H8.out, K8.out⟩
end Go.Proofs.YthhimhjegodklaaGreat.N11

