/-
  What the calls of a reading for a Kid, a key, a cell answer and leave (kid, key, cell), over this seat's translation: what plain mathematics reads, or they give up; conditions: the reading lies as it is told, its text is no longer than a machine's numbers tell.
-/
import Derived.Test.YthhimhjegodklaaGreatNr
namespace Go.Proofs.YthhimhjegodklaaGreat.N11
set_option linter.unusedSimpArgs false
set_option linter.unusedVariables false
open Go.RowKit
/-- A thing was read. -/
def Took (v : Value) (b g : Nat) (s : ByteArray) (l : List UInt8) (w : World) (e : Ending) (w' : World) : Prop := e = .returned v ∧ RG w' b g s l ∧ Kq b g w w'
def headB (l : List UInt8) : Bool := match l with
  | [] => false
  | c :: _ => decide (c.toNat = 255)
theorem headB_iff (l : List UInt8) : headB l = true ↔ l.head? = some 255 := by
  cases l with
  | nil => simp [headB]
  | cons c r =>
    simp only [headB, decide_eq_true_eq, List.head?_cons, Option.some.injEq]
    exact ⟨fun h => UInt8.toNat_inj.1 h, fun h => by rw [h]; rfl⟩
set_option maxRecDepth 100000 in
set_option maxHeartbeats 1000000 in
theorem isLong_any (b g : Nat) (s : ByteArray) (l : List UInt8) (w : World) (h : RG w b g s l) (hs : s.size ≤ 9223372036854775807) :
    Calls Tryz.prog 65 #[.pointer (some ⟨g, 0, none⟩)] w fun e w' => e = .returned (.bool (headB l)) ∧ w.grownBy w' none := by
  have c0 := h.c0
  have c1 := h.c1
  obtain ⟨p, bg, hr, hp, hd, hb, hne⟩ := h
  have hl := drop_len hd hp
  have HL : Hid (∀ W, w.grownBy W none → Calls Tryz.prog 54 #[.pointer (some ⟨b, 0, none⟩)] W fun e w' => e = .returned (.int .i64 ((s.size : Int) - p)) ∧ W.grownBy w' none) := Lib.hid (fun W gW => (left_any b s p W (hr.keep0 gW) hp hs).mono (fun _ _ h => ⟨h.1, h.2.1⟩))
  have HP : Hid (∀ W, w.grownBy W none → Calls Tryz.prog 67 #[.pointer (some ⟨b, 0, none⟩)] W fun e w' => e = .returned (.int .i64 p) ∧ W = w') := Lib.hid (fun W gW => place_any b s p W (hr.keep0 gW))
  have HD := Lib.hid hd
  clear hd hr hb
  obtain ⟨L, hL⟩ : ∃ L : Int, (s.size : Int) - p = L := ⟨_, rfl⟩
  rw [hL] at HL
  have HLL := Lib.hid hL
  clear hL
  cases l with
  | nil =>
    rw [List.length_nil] at hl
    have hz : decide (0 < L) = false := by have := HLL.out; simp; omega
    go_enter Tryz.func65, Tryz.ntmps65
    go_wp2
    refine wp_region_noPanic ?_
    refine wp_region_held_drew (S := fun w' => w.grownBy w' none) (by kernel_rfl) (gb_drew _ _) (fun hHeld => ?_)
    refine wpAnyH_take (i := 0) (v := ?_) (List.getElem?_toArray.trans rfl) (by kernel_rfl) (by kernel_rfl) (by kernel_rfl) (fun _ _ _ h => h) (Or.inl ⟨by rfl, ?_⟩) hHeld ?_
    rotate_left
    · intro w' hSw; have c0 := hSw.cell c0 (by simp); have c1 := hSw.cell c1 (by simp); go_simp; try with_reducible rfl
    try simp only [Act.put, List.setIfInBounds_toArray, List.set_cons_zero, List.set_cons_succ]
    refine wpAnyH_take (i := 1) (v := ?_) (List.getElem?_toArray.trans rfl) (by kernel_rfl) (by kernel_rfl) (by kernel_rfl) (fun _ _ _ h => h) (Or.inl ⟨by rfl, ?_⟩) hHeld ?_
    rotate_left
    · intro w' hSw; have c0 := hSw.cell c0 (by simp); have c1 := hSw.cell c1 (by simp); go_simp; try with_reducible rfl
    try simp only [Act.put, List.setIfInBounds_toArray, List.set_cons_zero, List.set_cons_succ]
    refine wpAnyH_take (i := 2) (v := ?_) (List.getElem?_toArray.trans rfl) (by kernel_rfl) (by kernel_rfl) (by kernel_rfl) (fun _ _ _ h => h) (Or.inl ⟨by rfl, ?_⟩) hHeld ?_
    rotate_left
    · intro w' hSw; have c0 := hSw.cell c0 (by simp); have c1 := hSw.cell c1 (by simp); go_simp; try with_reducible rfl
    try simp only [Act.put, List.setIfInBounds_toArray, List.set_cons_zero, List.set_cons_succ]
    refine wpAnyH_take (i := 3) (v := ?_) (List.getElem?_toArray.trans rfl) (by kernel_rfl) (by kernel_rfl) (by kernel_rfl) (fun _ _ _ h => h) (Or.inl ⟨by rfl, ?_⟩) hHeld ?_
    rotate_left
    · intro w' hSw; have c0 := hSw.cell c0 (by simp); have c1 := hSw.cell c1 (by simp); go_simp; try with_reducible rfl
    try simp only [Act.put, List.setIfInBounds_toArray, List.set_cons_zero, List.set_cons_succ]
    refine wpAnyH_ready (rs := [4]) (by kernel_rfl) (by simp) ?_
    refine AllReadyH.cons (List.getElem?_toArray.trans rfl) (fun K hK => ?_) AllReadyH.nil
    go_simp
    go_at_call 54
    (with_reducible refine (HL.out _ hHeld).mono ?_)
    rintro e w2 ⟨rfl, g2⟩
    refine hK.out _ _ (gb_trans hHeld g2) (fun hHeld => ?_)
    clear hK K
    try simp only [Act.put, List.setIfInBounds_toArray, List.set_cons_zero, List.set_cons_succ]
    refine wpAnyH_take (i := 5) (v := ?_) (List.getElem?_toArray.trans rfl) (by kernel_rfl) (by kernel_rfl) (by kernel_rfl) (fun _ _ _ h => h) (Or.inl ⟨by rfl, ?_⟩) hHeld ?_
    rotate_left
    · intro w' hSw; have c0 := hSw.cell c0 (by simp); have c1 := hSw.cell c1 (by simp); go_simp; try with_reducible rfl
    try simp only [Act.put, List.setIfInBounds_toArray, List.set_cons_zero, List.set_cons_succ]
    refine wpAnyH_take (i := 6) (v := ?_) (List.getElem?_toArray.trans rfl) (by kernel_rfl) (by kernel_rfl) (by kernel_rfl) (fun _ _ _ h => h) (Or.inl ⟨by rfl, ?_⟩) hHeld ?_
    rotate_left
    · intro w' hSw; have c0 := hSw.cell c0 (by simp); have c1 := hSw.cell c1 (by simp); go_simp; try with_reducible rfl
    try simp only [Act.put, List.setIfInBounds_toArray, List.set_cons_zero, List.set_cons_succ]
    refine wpAnyH_take (i := 7) (v := undef) (List.getElem?_toArray.trans rfl) (by kernel_rfl) (by kernel_rfl) (by kernel_rfl) (fun _ _ _ h => h) (Or.inr ⟨by rfl, rfl⟩) hHeld ?_
    try simp only [Act.put, List.setIfInBounds_toArray, List.set_cons_zero, List.set_cons_succ]
    refine wpAnyH_take (i := 8) (v := undef) (List.getElem?_toArray.trans rfl) (by kernel_rfl) (by kernel_rfl) (by kernel_rfl) (fun _ _ _ h => h) (Or.inr ⟨by rfl, rfl⟩) hHeld ?_
    try simp only [Act.put, List.setIfInBounds_toArray, List.set_cons_zero, List.set_cons_succ]
    refine wpAnyH_take (i := 9) (v := undef) (List.getElem?_toArray.trans rfl) (by kernel_rfl) (by kernel_rfl) (by kernel_rfl) (fun _ _ _ h => h) (Or.inr ⟨by rfl, rfl⟩) hHeld ?_
    try simp only [Act.put, List.setIfInBounds_toArray, List.set_cons_zero, List.set_cons_succ]
    refine wpAnyH_take (i := 10) (v := undef) (List.getElem?_toArray.trans rfl) (by kernel_rfl) (by kernel_rfl) (by kernel_rfl) (fun _ _ _ h => h) (Or.inr ⟨by rfl, rfl⟩) hHeld ?_
    try simp only [Act.put, List.setIfInBounds_toArray, List.set_cons_zero, List.set_cons_succ]
    refine wpAnyH_take (i := 11) (v := undef) (List.getElem?_toArray.trans rfl) (by kernel_rfl) (by kernel_rfl) (by kernel_rfl) (fun _ _ _ h => h) (Or.inr ⟨by rfl, rfl⟩) hHeld ?_
    try simp only [Act.put, List.setIfInBounds_toArray, List.set_cons_zero, List.set_cons_succ]
    refine wpAnyH_take (i := 12) (v := undef) (List.getElem?_toArray.trans rfl) (by kernel_rfl) (by kernel_rfl) (by kernel_rfl) (fun _ _ _ h => h) (Or.inr ⟨by rfl, rfl⟩) hHeld ?_
    try simp only [Act.put, List.setIfInBounds_toArray, List.set_cons_zero, List.set_cons_succ]
    refine wpAnyH_take (i := 13) (v := undef) (List.getElem?_toArray.trans rfl) (by kernel_rfl) (by kernel_rfl) (by kernel_rfl) (fun _ _ _ h => h) (Or.inr ⟨by rfl, rfl⟩) hHeld ?_
    try simp only [Act.put, List.setIfInBounds_toArray, List.set_cons_zero, List.set_cons_succ]
    refine wpAnyH_take (i := 14) (v := undef) (List.getElem?_toArray.trans rfl) (by kernel_rfl) (by kernel_rfl) (by kernel_rfl) (fun _ _ _ h => h) (Or.inr ⟨by rfl, rfl⟩) hHeld ?_
    try simp only [Act.put, List.setIfInBounds_toArray, List.set_cons_zero, List.set_cons_succ]
    refine wpAnyH_take (i := 15) (v := undef) (List.getElem?_toArray.trans rfl) (by kernel_rfl) (by kernel_rfl) (by kernel_rfl) (fun _ _ _ h => h) (Or.inr ⟨by rfl, rfl⟩) hHeld ?_
    try simp only [Act.put, List.setIfInBounds_toArray, List.set_cons_zero, List.set_cons_succ]
    refine wpAnyH_take (i := 16) (v := undef) (List.getElem?_toArray.trans rfl) (by kernel_rfl) (by kernel_rfl) (by kernel_rfl) (fun _ _ _ h => h) (Or.inr ⟨by rfl, rfl⟩) hHeld ?_
    try simp only [Act.put, List.setIfInBounds_toArray, List.set_cons_zero, List.set_cons_succ]
    refine wpAnyH_take (i := 17) (v := undef) (List.getElem?_toArray.trans rfl) (by kernel_rfl) (by kernel_rfl) (by kernel_rfl) (fun _ _ _ h => h) (Or.inr ⟨by rfl, rfl⟩) hHeld ?_
    try simp only [Act.put, List.setIfInBounds_toArray, List.set_cons_zero, List.set_cons_succ]
    refine wpAnyH_take (i := 18) (v := ?_) (List.getElem?_toArray.trans rfl) (by kernel_rfl) (by kernel_rfl) (by kernel_rfl) (fun _ _ _ h => h) (Or.inl ⟨by rfl, ?_⟩) hHeld ?_
    rotate_left
    · intro w' hSw; have c0 := hSw.cell c0 (by simp); have c1 := hSw.cell c1 (by simp); go_simp; try with_reducible rfl
    try simp only [Act.put, List.setIfInBounds_toArray, List.set_cons_zero, List.set_cons_succ]
    refine wpAnyH_take (i := 19) (v := ?_) (List.getElem?_toArray.trans rfl) (by kernel_rfl) (by kernel_rfl) (by kernel_rfl) (fun _ _ _ h => h) (Or.inl ⟨by rfl, ?_⟩) hHeld ?_
    rotate_left
    · intro w' hSw; have c0 := hSw.cell c0 (by simp); have c1 := hSw.cell c1 (by simp); go_simp; try with_reducible rfl
    try simp only [Act.put, List.setIfInBounds_toArray, List.set_cons_zero, List.set_cons_succ]
    refine wpAnyH_done (by kernel_rfl) ?_ _
    refine NoPanic.normal ?_
    go_wp2
    go_ret
    exact ⟨rfl, hHeld⟩
  | cons c r =>
    rw [List.length_cons] at hl
    have hz : decide (0 < L) = true := by have := HLL.out; simp; omega
    have hz2 : (p : Int) < (s.size : Int) := by omega
    have hlt : p < s.size := by omega
    have hc : s[p] = c := by
      have e1 : s.data.toList[p]? = some c := by
        have h := HD.out
        have := congrArg List.head? h
        rw [List.head?_drop] at this
        simpa using this
      have e2 : s.data.toList[p]? = some s[p] := by
        rw [Array.getElem?_toList]
        exact Array.getElem?_eq_getElem (h := hlt)
      rw [e1] at e2
      exact (Option.some.inj e2).symm
    have HC := Lib.hid hc
    clear hc
    go_enter Tryz.func65, Tryz.ntmps65
    go_wp2
    refine wp_region_noPanic ?_
    refine wp_region_held_drew (S := fun w' => w.grownBy w' none) (by kernel_rfl) (gb_drew _ _) (fun hHeld => ?_)
    refine wpAnyH_take (i := 0) (v := ?_) (List.getElem?_toArray.trans rfl) (by kernel_rfl) (by kernel_rfl) (by kernel_rfl) (fun _ _ _ h => h) (Or.inl ⟨by rfl, ?_⟩) hHeld ?_
    rotate_left
    · intro w' hSw; have c0 := hSw.cell c0 (by simp); have c1 := hSw.cell c1 (by simp); go_simp; try with_reducible rfl
    try simp only [Act.put, List.setIfInBounds_toArray, List.set_cons_zero, List.set_cons_succ]
    refine wpAnyH_take (i := 1) (v := ?_) (List.getElem?_toArray.trans rfl) (by kernel_rfl) (by kernel_rfl) (by kernel_rfl) (fun _ _ _ h => h) (Or.inl ⟨by rfl, ?_⟩) hHeld ?_
    rotate_left
    · intro w' hSw; have c0 := hSw.cell c0 (by simp); have c1 := hSw.cell c1 (by simp); go_simp; try with_reducible rfl
    try simp only [Act.put, List.setIfInBounds_toArray, List.set_cons_zero, List.set_cons_succ]
    refine wpAnyH_take (i := 2) (v := ?_) (List.getElem?_toArray.trans rfl) (by kernel_rfl) (by kernel_rfl) (by kernel_rfl) (fun _ _ _ h => h) (Or.inl ⟨by rfl, ?_⟩) hHeld ?_
    rotate_left
    · intro w' hSw; have c0 := hSw.cell c0 (by simp); have c1 := hSw.cell c1 (by simp); go_simp; try with_reducible rfl
    try simp only [Act.put, List.setIfInBounds_toArray, List.set_cons_zero, List.set_cons_succ]
    refine wpAnyH_take (i := 3) (v := ?_) (List.getElem?_toArray.trans rfl) (by kernel_rfl) (by kernel_rfl) (by kernel_rfl) (fun _ _ _ h => h) (Or.inl ⟨by rfl, ?_⟩) hHeld ?_
    rotate_left
    · intro w' hSw; have c0 := hSw.cell c0 (by simp); have c1 := hSw.cell c1 (by simp); go_simp; try with_reducible rfl
    try simp only [Act.put, List.setIfInBounds_toArray, List.set_cons_zero, List.set_cons_succ]
    refine wpAnyH_ready (rs := [4]) (by kernel_rfl) (by simp) ?_
    refine AllReadyH.cons (List.getElem?_toArray.trans rfl) (fun K hK => ?_) AllReadyH.nil
    go_simp
    go_at_call 54
    (with_reducible refine (HL.out _ hHeld).mono ?_)
    rintro e w2 ⟨rfl, g2⟩
    refine hK.out _ _ (gb_trans hHeld g2) (fun hHeld => ?_)
    clear hK K
    try simp only [Act.put, List.setIfInBounds_toArray, List.set_cons_zero, List.set_cons_succ]
    refine wpAnyH_take (i := 5) (v := ?_) (List.getElem?_toArray.trans rfl) (by kernel_rfl) (by kernel_rfl) (by kernel_rfl) (fun _ _ _ h => h) (Or.inl ⟨by rfl, ?_⟩) hHeld ?_
    rotate_left
    · intro w' hSw; have c0 := hSw.cell c0 (by simp); have c1 := hSw.cell c1 (by simp); go_simp; try with_reducible rfl
    try simp only [Act.put, List.setIfInBounds_toArray, List.set_cons_zero, List.set_cons_succ]
    refine wpAnyH_take (i := 6) (v := ?_) (List.getElem?_toArray.trans rfl) (by kernel_rfl) (by kernel_rfl) (by kernel_rfl) (fun _ _ _ h => h) (Or.inl ⟨by rfl, ?_⟩) hHeld ?_
    rotate_left
    · intro w' hSw; have c0 := hSw.cell c0 (by simp); have c1 := hSw.cell c1 (by simp); go_simp; try with_reducible rfl
    try simp only [Act.put, List.setIfInBounds_toArray, List.set_cons_zero, List.set_cons_succ]
    refine wpAnyH_take (i := 7) (v := ?_) (List.getElem?_toArray.trans rfl) (by kernel_rfl) (by kernel_rfl) (by kernel_rfl) (fun _ _ _ h => h) (Or.inl ⟨by rfl, ?_⟩) hHeld ?_
    rotate_left
    · intro w' hSw; have c0 := hSw.cell c0 (by simp); have c1 := hSw.cell c1 (by simp); go_simp; try with_reducible rfl
    try simp only [Act.put, List.setIfInBounds_toArray, List.set_cons_zero, List.set_cons_succ]
    refine wpAnyH_take (i := 8) (v := ?_) (List.getElem?_toArray.trans rfl) (by kernel_rfl) (by kernel_rfl) (by kernel_rfl) (fun _ _ _ h => h) (Or.inl ⟨by rfl, ?_⟩) hHeld ?_
    rotate_left
    · intro w' hSw; have c0 := hSw.cell c0 (by simp); have c1 := hSw.cell c1 (by simp); go_simp; try with_reducible rfl
    try simp only [Act.put, List.setIfInBounds_toArray, List.set_cons_zero, List.set_cons_succ]
    refine wpAnyH_take (i := 9) (v := ?_) (List.getElem?_toArray.trans rfl) (by kernel_rfl) (by kernel_rfl) (by kernel_rfl) (fun _ _ _ h => h) (Or.inl ⟨by rfl, ?_⟩) hHeld ?_
    rotate_left
    · intro w' hSw; have c0 := hSw.cell c0 (by simp); have c1 := hSw.cell c1 (by simp); go_simp; try with_reducible rfl
    try simp only [Act.put, List.setIfInBounds_toArray, List.set_cons_zero, List.set_cons_succ]
    refine wpAnyH_take (i := 10) (v := ?_) (List.getElem?_toArray.trans rfl) (by kernel_rfl) (by kernel_rfl) (by kernel_rfl) (fun _ _ _ h => h) (Or.inl ⟨by rfl, ?_⟩) hHeld ?_
    rotate_left
    · intro w' hSw; have c0 := hSw.cell c0 (by simp); have c1 := hSw.cell c1 (by simp); go_simp; try with_reducible rfl
    try simp only [Act.put, List.setIfInBounds_toArray, List.set_cons_zero, List.set_cons_succ]
    refine wpAnyH_take (i := 11) (v := ?_) (List.getElem?_toArray.trans rfl) (by kernel_rfl) (by kernel_rfl) (by kernel_rfl) (fun _ _ _ h => h) (Or.inl ⟨by rfl, ?_⟩) hHeld ?_
    rotate_left
    · intro w' hSw; have c0 := hSw.cell c0 (by simp); have c1 := hSw.cell c1 (by simp); go_simp; try with_reducible rfl
    try simp only [Act.put, List.setIfInBounds_toArray, List.set_cons_zero, List.set_cons_succ]
    refine wpAnyH_take (i := 12) (v := ?_) (List.getElem?_toArray.trans rfl) (by kernel_rfl) (by kernel_rfl) (by kernel_rfl) (fun _ _ _ h => h) (Or.inl ⟨by rfl, ?_⟩) hHeld ?_
    rotate_left
    · intro w' hSw; have c0 := hSw.cell c0 (by simp); have c1 := hSw.cell c1 (by simp); go_simp; try with_reducible rfl
    try simp only [Act.put, List.setIfInBounds_toArray, List.set_cons_zero, List.set_cons_succ]
    refine wpAnyH_take (i := 13) (v := ?_) (List.getElem?_toArray.trans rfl) (by kernel_rfl) (by kernel_rfl) (by kernel_rfl) (fun _ _ _ h => h) (Or.inl ⟨by rfl, ?_⟩) hHeld ?_
    rotate_left
    · intro w' hSw; have c0 := hSw.cell c0 (by simp); have c1 := hSw.cell c1 (by simp); go_simp; try with_reducible rfl
    try simp only [Act.put, List.setIfInBounds_toArray, List.set_cons_zero, List.set_cons_succ]
    refine wpAnyH_take (i := 14) (v := ?_) (List.getElem?_toArray.trans rfl) (by kernel_rfl) (by kernel_rfl) (by kernel_rfl) (fun _ _ _ h => h) (Or.inl ⟨by rfl, ?_⟩) hHeld ?_
    rotate_left
    · intro w' hSw; have c0 := hSw.cell c0 (by simp); have c1 := hSw.cell c1 (by simp); go_simp; try with_reducible rfl
    try simp only [Act.put, List.setIfInBounds_toArray, List.set_cons_zero, List.set_cons_succ]
    refine wpAnyH_ready (rs := [15]) (by kernel_rfl) (by simp) ?_
    refine AllReadyH.cons (List.getElem?_toArray.trans rfl) (fun K hK => ?_) AllReadyH.nil
    go_simp
    go_at_call 67
    (with_reducible refine (HP.out _ hHeld).mono ?_)
    rintro e w2 ⟨rfl, rfl⟩
    refine hK.out _ _ (hHeld) (fun hHeld => ?_)
    clear hK K
    try simp only [Act.put, List.setIfInBounds_toArray, List.set_cons_zero, List.set_cons_succ]
    refine wpAnyH_take (i := 16) (v := ?_) (List.getElem?_toArray.trans rfl) (by kernel_rfl) (by kernel_rfl) (by kernel_rfl) (fun _ _ _ h => h) (Or.inl ⟨by rfl, ?_⟩) hHeld ?_
    rotate_left
    · intro w' hSw; have c0 := hSw.cell c0 (by simp); have c1 := hSw.cell c1 (by simp); go_simp; try with_reducible rfl
    try simp only [Act.put, List.setIfInBounds_toArray, List.set_cons_zero, List.set_cons_succ]
    refine wpAnyH_take (i := 17) (v := ?_) (List.getElem?_toArray.trans rfl) (by kernel_rfl) (by kernel_rfl) (by kernel_rfl) (fun _ _ _ h => h) (Or.inl ⟨by rfl, ?_⟩) hHeld ?_
    rotate_left
    · intro w' hSw; have c0 := hSw.cell c0 (by simp); have c1 := hSw.cell c1 (by simp); go_simp; try with_reducible rfl
    try simp only [Act.put, List.setIfInBounds_toArray, List.set_cons_zero, List.set_cons_succ]
    refine wpAnyH_take (i := 18) (v := ?_) (List.getElem?_toArray.trans rfl) (by kernel_rfl) (by kernel_rfl) (by kernel_rfl) (fun _ _ _ h => h) (Or.inl ⟨by rfl, ?_⟩) hHeld ?_
    rotate_left
    · intro w' hSw; have c0 := hSw.cell c0 (by simp); have c1 := hSw.cell c1 (by simp); go_simp; try with_reducible rfl
    try simp only [Act.put, List.setIfInBounds_toArray, List.set_cons_zero, List.set_cons_succ]
    refine wpAnyH_take (i := 19) (v := ?_) (List.getElem?_toArray.trans rfl) (by kernel_rfl) (by kernel_rfl) (by kernel_rfl) (fun _ _ _ h => h) (Or.inl ⟨by rfl, ?_⟩) hHeld ?_
    rotate_left
    · intro w' hSw; have c0 := hSw.cell c0 (by simp); have c1 := hSw.cell c1 (by simp); go_simp; try with_reducible rfl
    try simp only [Act.put, List.setIfInBounds_toArray, List.set_cons_zero, List.set_cons_succ]
    refine wpAnyH_done (by kernel_rfl) ?_ _
    refine NoPanic.normal ?_
    go_wp2
    go_ret
    refine ⟨ret_b ?_, hHeld⟩
    rw [HC.out, Bool.eq_iff_iff]; simp [headB]; omega
theorem keyR_some {l r : List UInt8} {k : ByteArray} (h : keyR l = some (k, r)) : textR l = some (k, r) ∧ keyB k = true := by
  unfold keyR at h
  obtain ⟨⟨k', t⟩, hk, h5⟩ := Option.bind_eq_some_iff.1 h
  clear h
  try dsimp only at h5
  split at h5
  · rename_i hb
    injection h5 with h5
    injection h5 with h1 h2
    subst h1 h2
    exact ⟨hk, hb⟩
  · cases h5
theorem keyR_none {l : List UInt8} (h : keyR l = none) : textR l = none ∨ ∃ k r, textR l = some (k, r) ∧ keyB k = false := by
  unfold keyR at h
  cases ht : textR l with
  | none => exact .inl rfl
  | some x =>
    obtain ⟨k, r⟩ := x
    rw [ht, Option.bind_some] at h
    try dsimp only at h
    split at h
    · cases h
    · rename_i hb
      exact .inr ⟨k, r, rfl, by simpa using hb⟩
theorem kidR_some {l r : List UInt8} {i : Int} (h : kidR l = some (i, r)) : ∃ n : Nat, i = n ∧ numR l = some (n, r) ∧ pageB n = true := by
  unfold kidR at h
  obtain ⟨⟨n, t⟩, hn, h5⟩ := Option.bind_eq_some_iff.1 h
  clear h
  try dsimp only at h5
  split at h5
  · rename_i hb
    injection h5 with h5
    injection h5 with h1 h2
    subst h1 h2
    exact ⟨n, rfl, hn, hb⟩
  · cases h5
theorem kidR_none {l : List UInt8} (h : kidR l = none) : numR l = none ∨ ∃ (n : Nat) (r : List UInt8), numR l = some (n, r) ∧ pageB n = false := by
  unfold kidR at h
  cases ht : numR l with
  | none => exact .inl rfl
  | some x =>
    obtain ⟨k, r⟩ := x
    rw [ht, Option.bind_some] at h
    try dsimp only at h
    split at h
    · cases h
    · rename_i hb
      exact .inr ⟨k, r, rfl, by simpa using hb⟩
set_option maxRecDepth 100000 in
set_option maxHeartbeats 1000000 in
theorem key_some (b g : Nat) (s k : ByteArray) (l r : List UInt8) (w : World) (h : RG w b g s l) (hs : s.size ≤ 9223372036854775807) (hk : keyR l = some (k, r)) : Calls Tryz.prog 51 #[.pointer (some ⟨g, 0, none⟩)] w (Took (.string k) b g s r w) := by
  obtain ⟨ht, hb⟩ := keyR_some hk
  have HT := Lib.hid ht
  have HP := Lib.hid (isKey_any k)
  have H0 := Lib.hid h
  rw [hb] at HP
  clear ht hb hk h
  go_enter Tryz.func51, Tryz.ntmps51
  go_wp2_with (first
    | (go_at_call 57; (with_reducible refine (begin_any b g s l _ H0.out).mono ?_); rintro e w1 ⟨rfl, h1, k1⟩; have c0 := h1.c0; have H1 := Lib.hid h1; have K1 := Lib.hid k1; clear h1 k1)
    | (go_at_call 62; (with_reducible refine (text_got b g s k l r _ H1.out hs HT.out).mono ?_); rintro e w2 ⟨rfl, h2, k2⟩; clear c0; have c0 := h2.c0; have H2 := Lib.hid h2; have K2 := Lib.hid (K1.out.trans k2); clear h2 k2)
    | (go_at_call 61; (with_reducible refine (taken_s _ _).mono ?_); rintro e wt ⟨rfl, rfl⟩)
    | (go_at_call 63; (with_reducible refine (HP.out _).mono ?_); rintro e wp ⟨rfl, rfl⟩)
    | (go_at_call 43; (with_reducible refine (must_ok _ _).mono ?_); rintro e wm ⟨rfl, rfl⟩))
  go_ret
  exact ⟨rfl, H2.out, K2.out⟩
set_option maxRecDepth 100000 in
set_option maxHeartbeats 1000000 in
theorem key_none (b g : Nat) (s : ByteArray) (l : List UInt8) (w : World) (h : RG w b g s l) (hs : s.size ≤ 9223372036854775807) (hk : keyR l = none) : Calls Tryz.prog 51 #[.pointer (some ⟨g, 0, none⟩)] w (GaveUp b g s w) := by
  have H0 := Lib.hid h
  clear h
  rcases keyR_none hk with ht | ⟨k, r, ht, hb⟩
  · have HT := Lib.hid ht
    clear ht hk
    go_enter Tryz.func51, Tryz.ntmps51
    go_wp2_with (first
      | (go_at_call 57; (with_reducible refine (begin_any b g s l _ H0.out).mono ?_); rintro e w1 ⟨rfl, h1, k1⟩; have c0 := h1.c0; have H1 := Lib.hid h1; have K1 := Lib.hid k1; clear h1 k1)
      | (go_at_call 62; (with_reducible refine (text_not b g s l _ H1.out hs HT.out).mono ?_); rintro e w2 ⟨a2, rfl, h2, k2⟩; have H2 := Lib.hid h2; have K2 := Lib.hid (K1.out.trans k2); clear h2 k2)
      | (go_at_call 61; (with_reducible refine (taken_s_no _ _ _).mono ?_); rintro e wt ⟨rfl, rfl⟩))
    exact ⟨rfl, _, _, rfl, .inl ⟨_, rfl⟩, H2.out, K2.out⟩
  · have HT := Lib.hid ht
    have HP := Lib.hid (isKey_any k)
    rw [hb] at HP
    clear ht hk hb
    go_enter Tryz.func51, Tryz.ntmps51
    go_wp2_with (first
      | (go_at_call 57; (with_reducible refine (begin_any b g s l _ H0.out).mono ?_); rintro e w1 ⟨rfl, h1, k1⟩; have c0 := h1.c0; have H1 := Lib.hid h1; have K1 := Lib.hid k1; clear h1 k1)
      | (go_at_call 62; (with_reducible refine (text_got b g s k l r _ H1.out hs HT.out).mono ?_); rintro e w2 ⟨rfl, h2, k2⟩; clear c0; have c0 := h2.c0; have H2 := Lib.hid h2; have K2 := Lib.hid (K1.out.trans k2); clear h2 k2)
      | (go_at_call 61; (with_reducible refine (taken_s _ _).mono ?_); rintro e wt ⟨rfl, rfl⟩)
      | (go_at_call 63; (with_reducible refine (HP.out _).mono ?_); rintro e wp ⟨rfl, rfl⟩)
      | (go_at_call 43; (with_reducible refine (must_no _ _).mono ?_); rintro e wm ⟨rfl, rfl⟩))
    exact ⟨rfl, _, _, rfl, .inr ⟨_, rfl⟩, H2.out, K2.out⟩
set_option maxRecDepth 100000 in
set_option maxHeartbeats 1000000 in
theorem kid_some (b g : Nat) (s : ByteArray) (i : Int) (l r : List UInt8) (w : World) (h : RG w b g s l) (hs : s.size ≤ 9223372036854775807) (hk : kidR l = some (i, r)) : Calls Tryz.prog 50 #[.pointer (some ⟨g, 0, none⟩)] w (Took (.int .i64 i) b g s r w) := by
  obtain ⟨n, rfl, ht, hb⟩ := kidR_some hk
  have HT := Lib.hid ht
  have HP := Lib.hid (isPage_any n)
  have H0 := Lib.hid h
  rw [hb] at HP
  have hn := (numR_got ht).1
  have q1 : IntKind.i64.wrap (n : Int) = (n : Int) := IntWalk.i64_in _ (by omega)
  clear ht hb hk h
  go_enter Tryz.func50, Tryz.ntmps50
  go_wp2_with (first
    | (go_at_call 57; (with_reducible refine (begin_any b g s l _ H0.out).mono ?_); rintro e w1 ⟨rfl, h1, k1⟩; have c0 := h1.c0; have H1 := Lib.hid h1; have K1 := Lib.hid k1; clear h1 k1)
    | (go_at_call 59; (with_reducible refine (num16_got b g s n l r _ H1.out hs HT.out).mono ?_); rintro e w2 ⟨rfl, h2, k2⟩; clear c0; have c0 := h2.c0; have H2 := Lib.hid h2; have K2 := Lib.hid (K1.out.trans k2); clear h2 k2)
    | (go_at_call 58; (with_reducible refine (taken_u16 _ _).mono ?_); rintro e wt ⟨rfl, rfl⟩)
    | (go_at_call 60; (with_reducible refine (HP.out _).mono ?_); rintro e wp ⟨rfl, rfl⟩)
    | (go_at_call 43; (with_reducible refine (must_ok _ _).mono ?_); rintro e wm ⟨rfl, rfl⟩))
  go_ret
  exact ⟨rfl, H2.out, K2.out⟩
set_option maxRecDepth 100000 in
set_option maxHeartbeats 1000000 in
theorem kid_none (b g : Nat) (s : ByteArray) (l : List UInt8) (w : World) (h : RG w b g s l) (hs : s.size ≤ 9223372036854775807) (hk : kidR l = none) : Calls Tryz.prog 50 #[.pointer (some ⟨g, 0, none⟩)] w (GaveUp b g s w) := by
  have H0 := Lib.hid h
  clear h
  rcases kidR_none hk with ht | ⟨n, r, ht, hb⟩
  · have HT := Lib.hid ht
    clear ht hk
    go_enter Tryz.func50, Tryz.ntmps50
    go_wp2_with (first
      | (go_at_call 57; (with_reducible refine (begin_any b g s l _ H0.out).mono ?_); rintro e w1 ⟨rfl, h1, k1⟩; have c0 := h1.c0; have H1 := Lib.hid h1; have K1 := Lib.hid k1; clear h1 k1)
      | (go_at_call 59; (with_reducible refine (num16_not b g s l _ H1.out hs HT.out).mono ?_); rintro e w2 ⟨a2, rfl, h2, k2⟩; have H2 := Lib.hid h2; have K2 := Lib.hid (K1.out.trans k2); clear h2 k2)
      | (go_at_call 58; (with_reducible refine (taken_u16_no _ _ _).mono ?_); rintro e wt ⟨rfl, rfl⟩))
    exact ⟨rfl, _, _, rfl, .inl ⟨_, rfl⟩, H2.out, K2.out⟩
  · have HT := Lib.hid ht
    have HP := Lib.hid (isPage_any n)
    rw [hb] at HP
    have hn := (numR_got ht).1
    have q1 : IntKind.i64.wrap (n : Int) = (n : Int) := IntWalk.i64_in _ (by omega)
    clear ht hk hb
    go_enter Tryz.func50, Tryz.ntmps50
    go_wp2_with (first
      | (go_at_call 57; (with_reducible refine (begin_any b g s l _ H0.out).mono ?_); rintro e w1 ⟨rfl, h1, k1⟩; have c0 := h1.c0; have H1 := Lib.hid h1; have K1 := Lib.hid k1; clear h1 k1)
      | (go_at_call 59; (with_reducible refine (num16_got b g s n l r _ H1.out hs HT.out).mono ?_); rintro e w2 ⟨rfl, h2, k2⟩; clear c0; have c0 := h2.c0; have H2 := Lib.hid h2; have K2 := Lib.hid (K1.out.trans k2); clear h2 k2)
      | (go_at_call 58; (with_reducible refine (taken_u16 _ _).mono ?_); rintro e wt ⟨rfl, rfl⟩)
      | (go_at_call 60; (with_reducible refine (HP.out _).mono ?_); rintro e wp ⟨rfl, rfl⟩)
      | (go_at_call 43; (with_reducible refine (must_no _ _).mono ?_); rintro e wm ⟨rfl, rfl⟩))
    exact ⟨rfl, _, _, rfl, .inr ⟨_, rfl⟩, H2.out, K2.out⟩
end Go.Proofs.YthhimhjegodklaaGreat.N11

