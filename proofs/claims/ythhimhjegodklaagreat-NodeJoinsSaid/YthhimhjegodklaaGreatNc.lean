/-
  What ahead and areAll of package node answer (and slices.IndexFunc as they call it), at cells, keys and numbers, whatever function is asked of each, over this seat's translation; conditions: what that function answers of each item, changing nothing that was there.
-/
import Derived.Test.YthhimhjegodklaaGreatNb
namespace Go.Proofs.YthhimhjegodklaaGreat.N11
set_option linter.unusedSimpArgs false
set_option linter.unusedVariables false
open Go.RowKit
/-- How many items, from the first one on, are so. -/
def aheadF {α : Type} (p : α → Bool) (l : List α) : Nat := (l.takeWhile p).length
theorem aheadF_le {α : Type} (p : α → Bool) (l : List α) : aheadF p l ≤ l.length := (List.takeWhile_sublist p).length_le
theorem aheadF_cons {α : Type} (p : α → Bool) (x : α) (l : List α) : aheadF p (x :: l) = if p x then aheadF p l + 1 else 0 := by
  unfold aheadF; rw [List.takeWhile_cons]; split <;> simp
theorem aheadF_all {α : Type} (p : α → Bool) (l : List α) : aheadF p l = l.length ↔ l.all p = true := by
  induction l with
  | nil => simp [aheadF]
  | cons x l ih =>
    rw [aheadF_cons, List.all_cons, List.length_cons]
    have := aheadF_le p l
    rcases h : p x with _ | _
    · simp
    · simp [← ih]
theorem aheadF_at {α : Type} (p : α → Bool) (l : List α) : ∀ (k : Nat) (x : α), l[k]? = some x → (∀ y ∈ l.take k, p y = true) → p x = false → aheadF p l = k := by
  induction l with
  | nil => intro k x h; simp at h
  | cons z l ih =>
    intro k x h hp hx
    rw [aheadF_cons]
    cases k with
    | zero => simp at h; subst h; rw [hx]; simp
    | succ k =>
      rw [hp z (by simp), if_pos rfl, ih k x (by simpa using h) (fun y hy => hp y (by simp [hy])) hx]
theorem aheadF_end {α : Type} (p : α → Bool) (l : List α) (hp : ∀ y ∈ l.take l.length, p y = true) : aheadF p l = l.length := by
  rw [aheadF_all, List.all_eq_true]; intro y hy; exact hp y (by simpa using hy)
theorem take_all {α : Type} {p : α → Bool} {l : List α} {k : Nat} {x : α} (h : l[k]? = some x) (hp : ∀ y ∈ l.take k, p y = true) (hx : p x = true) : ∀ y ∈ l.take (k + 1), p y = true := by
  intro y hy
  rw [List.take_add_one, h, List.mem_append] at hy
  rcases hy with hy | hy
  · exact hp y hy
  · simp at hy; rw [hy]; exact hx
theorem all_eq {α : Type} (p : α → Bool) (l : List α) : ((aheadF p l : Int) == (l.length : Int)) = l.all p := by
  rw [Bool.eq_iff_iff, ← aheadF_all]; simp; omega
/-- What is asked of each item, wherever it is asked. -/
def TellsC (w : World) (g : Nat) (cap : Array Value) (p : Ce → Bool) (l : List Ce) : Prop :=
  ∀ x ∈ l, ∀ W, w.grownBy W none → Calls Tryz.prog g (#[.agg #[.string x.key, .string x.val, .int .i64 x.fi, .int .i64 x.lo]] ++ cap) W fun e w' => e = .returned (.bool (p x)) ∧ W.grownBy w' none
set_option maxRecDepth 100000 in
set_option maxHeartbeats 1000000 in
theorem ahead1_C (b g : Nat) (cap : Array Value) (x : Ce) (q : Bool) (w : World) (hb : Blk w b 68 #[.func (.func g) #[] cap])
    (eg : ∀ args w, (callFunc g args).run Tryz.prog w = .ok (.enter g args) w)
    (H : ∀ W, w.grownBy W none → Calls Tryz.prog g (#[.agg #[.string x.key, .string x.val, .int .i64 x.fi, .int .i64 x.lo]] ++ cap) W fun e w' => e = .returned (.bool q) ∧ W.grownBy w' none) :
    Calls Tryz.prog 39 #[.agg #[.string x.key, .string x.val, .int .i64 x.fi, .int .i64 x.lo], .pointer (some ⟨b, 0, none⟩)] w fun e w' => e = .returned (.bool (!q)) ∧ w.grownBy w' none := by
  have c0 : w.cell? ⟨b, 0, none⟩ = some (.func (.func g) #[] cap) := Blk.cell hb 0 rfl
  have hlt := hb.lt
  have HC := Lib.hid H
  clear H hb
  go_enter Tryz.func39, Tryz.ntmps39
  go_wp2_with ((with_reducible refine (HC.out _ (gb_alloc _ _ _)).mono ?_); rintro e w1 ⟨rfl, g1⟩)
  go_ret
  exact ⟨rfl, gb_trans (gb_alloc _ _ _) g1⟩
set_option maxRecDepth 100000 in
set_option maxHeartbeats 1000000 in
theorem indexno_C (b : Nat) (v : Value) (l : List Ce) (p : Ce → Bool) (w : World) (hv : Ces w v l) (hl : l.length ≤ 1000000000000000000) (hA : aheadF p l < l.length)
    (H : ∀ x ∈ l, ∀ W, w.grownBy W none → Calls Tryz.prog 39 #[.agg #[.string x.key, .string x.val, .int .i64 x.fi, .int .i64 x.lo], .pointer (some ⟨b, 0, none⟩)] W fun e w' => e = .returned (.bool (!p x)) ∧ W.grownBy w' none) :
    Calls Tryz.prog 38 #[v, .func (.func 39) #[] #[.pointer (some ⟨b, 0, none⟩)]] w fun e w' => e = .returned (.int .i64 (aheadF p l : Nat)) ∧ w.grownBy w' none := by
  have HC := Lib.hid H
  have HA := Lib.hid hA
  clear H hA
  obtain ⟨ao, cap, rfl, hcap, hlen, hnil, hcell⟩ := hv
  have HH := Lib.hid hcell
  have HN := Lib.hid hnil
  clear hcell hnil hlen
  go_enter Tryz.func38, Tryz.ntmps38
  go_wp2
  go_loopw [5, 8] (fun _ i wr => ∃ k : Nat, k ≤ l.length ∧ i = .int .i64 k ∧ Hid (∀ x ∈ l.take k, p x = true) ∧ w.grownBy wr none) (fun _ i _ => l.length - (intOf i).toNat)
  case atStart => exact ⟨0, Nat.zero_le _, rfl, Lib.hid (by simp), gb_refl _ _⟩
  case round =>
    obtain ⟨k, hk, rfl, hp, gr⟩ := hrel
    by_cases hlt : k < l.length
    · obtain ⟨x, hx⟩ : ∃ x, l[k]? = some x := ⟨_, List.getElem?_eq_getElem hlt⟩
      cases ao with
      | none => have := (HN.out rfl).1; omega
      | some a =>
        obtain ⟨c0, c1, c2, c3⟩ := cat_of (fun j u h => gr.cell (HH.out _ rfl j u h) (by simp)) hx
        have HX := Lib.hid (HC.out x (List.mem_of_getElem? hx) wr gr)
        have HE := Lib.hid hx
        clear hx
        rcases hb : p x with _ | _
        · rw [hb] at HX
          have HB := Lib.hid hb
          clear hb
          go_wp2_with (go_at_call 39; (with_reducible refine HX.out.mono ?_); rintro e w1 ⟨rfl, g1⟩)
          go_ret
          exact ⟨by rw [aheadF_at p l k x HE.out hp.out HB.out]; rfl, gb_trans gr g1⟩
        · rw [hb] at HX
          have HB := Lib.hid hb
          clear hb
          go_wp2_with (go_at_call 39; (with_reducible refine HX.out.mono ?_); rintro e w1 ⟨rfl, g1⟩)
          go_roundw
          case rel => exact ⟨k + 1, by omega, by go_num, Lib.hid (take_all HE.out hp.out HB.out), gb_trans gr g1⟩
          case measure => simp [intOf]; omega
    · go_wp2
      go_ret
      exact absurd (aheadF_end p l (by have h := hp.out; rwa [show k = l.length by omega] at h)) (Nat.ne_of_lt HA.out)
set_option maxRecDepth 100000 in
set_option maxHeartbeats 1000000 in
theorem indexall_C (b : Nat) (v : Value) (l : List Ce) (p : Ce → Bool) (w : World) (hv : Ces w v l) (hl : l.length ≤ 1000000000000000000) (hA : l.all p = true)
    (H : ∀ x ∈ l, ∀ W, w.grownBy W none → Calls Tryz.prog 39 #[.agg #[.string x.key, .string x.val, .int .i64 x.fi, .int .i64 x.lo], .pointer (some ⟨b, 0, none⟩)] W fun e w' => e = .returned (.bool (!p x)) ∧ W.grownBy w' none) :
    Calls Tryz.prog 38 #[v, .func (.func 39) #[] #[.pointer (some ⟨b, 0, none⟩)]] w fun e w' => e = .returned (.int .i64 (-1)) ∧ w.grownBy w' none := by
  have HC := Lib.hid H
  have HA := Lib.hid hA
  clear H hA
  obtain ⟨ao, cap, rfl, hcap, hlen, hnil, hcell⟩ := hv
  have HH := Lib.hid hcell
  have HN := Lib.hid hnil
  clear hcell hnil hlen
  go_enter Tryz.func38, Tryz.ntmps38
  go_wp2
  go_loopw [5, 8] (fun _ i wr => ∃ k : Nat, k ≤ l.length ∧ i = .int .i64 k ∧ Hid (∀ x ∈ l.take k, p x = true) ∧ w.grownBy wr none) (fun _ i _ => l.length - (intOf i).toNat)
  case atStart => exact ⟨0, Nat.zero_le _, rfl, Lib.hid (by simp), gb_refl _ _⟩
  case round =>
    obtain ⟨k, hk, rfl, hp, gr⟩ := hrel
    by_cases hlt : k < l.length
    · obtain ⟨x, hx⟩ : ∃ x, l[k]? = some x := ⟨_, List.getElem?_eq_getElem hlt⟩
      cases ao with
      | none => have := (HN.out rfl).1; omega
      | some a =>
        obtain ⟨c0, c1, c2, c3⟩ := cat_of (fun j u h => gr.cell (HH.out _ rfl j u h) (by simp)) hx
        have HX := Lib.hid (HC.out x (List.mem_of_getElem? hx) wr gr)
        have HE := Lib.hid hx
        clear hx
        rcases hb : p x with _ | _
        · rw [hb] at HX
          have HB := Lib.hid hb
          clear hb
          go_wp2_with (go_at_call 39; (with_reducible refine HX.out.mono ?_); rintro e w1 ⟨rfl, g1⟩)
          go_ret
          have := List.all_eq_true.1 HA.out x (List.mem_of_getElem? HE.out)
          rw [HB.out] at this; cases this
        · rw [hb] at HX
          have HB := Lib.hid hb
          clear hb
          go_wp2_with (go_at_call 39; (with_reducible refine HX.out.mono ?_); rintro e w1 ⟨rfl, g1⟩)
          go_roundw
          case rel => exact ⟨k + 1, by omega, by go_num, Lib.hid (take_all HE.out hp.out HB.out), gb_trans gr g1⟩
          case measure => simp [intOf]; omega
    · go_wp2
      go_ret
      exact ⟨rfl, gr⟩
set_option maxRecDepth 100000 in
set_option maxHeartbeats 1000000 in
theorem ahead_C (g : Nat) (cap : Array Value) (v : Value) (l : List Ce) (p : Ce → Bool) (w : World) (hv : Ces w v l) (hl : l.length ≤ 1000000000000000000)
    (eg : ∀ args w, (callFunc g args).run Tryz.prog w = .ok (.enter g args) w) (H : TellsC w g cap p l) :
    Calls Tryz.prog 27 #[v, .func (.func g) #[] cap] w fun e w' => e = .returned (.int .i64 (aheadF p l : Nat)) ∧ w.grownBy w' none := by
  have HC := Lib.hid (show ∀ x ∈ l, ∀ W, (w.alloc (.cells #[.func (.func g) #[] cap] 68)).grownBy W none → Calls Tryz.prog 39 #[.agg #[.string x.key, .string x.val, .int .i64 x.fi, .int .i64 x.lo], .pointer (some ⟨w.heap.size, 0, none⟩)] W fun e w' => e = .returned (.bool (!p x)) ∧ W.grownBy w' none from
    fun x hx W hW => ahead1_C w.heap.size g cap x (p x) W ((Blk.mk _ _ _).keep0 hW) eg (fun W2 h2 => H x hx W2 (gb_trans (gb_trans (gb_alloc _ _ _) hW) h2)))
  have HV := Lib.hid (hv.keep0 (gb_alloc w (.cells #[.func (.func g) #[] cap] 68) none))
  clear eg H
  by_cases hA : l.all p = true
  · have HA := Lib.hid hA
    have HE := Lib.hid ((aheadF_all p l).2 hA)
    clear hA
    rw [HE.out]
    obtain ⟨ao, cp, rfl, hcap, hlen, hnil, hcell⟩ := hv
    clear hcap hlen hnil hcell
    go_enter Tryz.func27, Tryz.ntmps27
    go_wp2_with (go_at_call 38; (with_reducible refine (indexall_C _ _ l p _ HV.out hl HA.out HC.out).mono ?_); rintro e w1 ⟨rfl, g1⟩)
    go_ret
    exact ⟨rfl, gb_trans (gb_alloc _ _ _) g1⟩
  · have hlt : aheadF p l < l.length := by
      have := aheadF_le p l
      rcases Nat.lt_or_ge (aheadF p l) l.length with h | h
      · exact h
      · exact absurd ((aheadF_all p l).1 (by omega)) hA
    have HA := Lib.hid hlt
    clear hA hlt hv
    have HI := Lib.hid (indexno_C _ _ l p _ HV.out hl HA.out HC.out)
    generalize aheadF p l = n at HI ⊢
    go_enter Tryz.func27, Tryz.ntmps27
    go_wp2_with (go_at_call 38; (with_reducible refine HI.out.mono ?_); rintro e w1 ⟨rfl, g1⟩)
    go_ret
    exact ⟨rfl, gb_trans (gb_alloc _ _ _) g1⟩
set_option maxRecDepth 100000 in
set_option maxHeartbeats 1000000 in
theorem areAll_C (g : Nat) (cap : Array Value) (v : Value) (l : List Ce) (p : Ce → Bool) (w : World) (hv : Ces w v l) (hl : l.length ≤ 1000000000000000000)
    (eg : ∀ args w, (callFunc g args).run Tryz.prog w = .ok (.enter g args) w) (H : TellsC w g cap p l) :
    Calls Tryz.prog 103 #[v, .func (.func g) #[] cap] w fun e w' => e = .returned (.bool (l.all p)) ∧ w.grownBy w' none := by
  have HI := Lib.hid (ahead_C g cap v l p w hv hl eg H)
  have HE := Lib.hid (all_eq p l)
  clear eg H
  generalize aheadF p l = n at HI HE
  obtain ⟨ao, cp, rfl, hcap, hlen, hnil, hcell⟩ := hv
  clear hcap hlen hnil hcell
  go_enter Tryz.func103, Tryz.ntmps103
  go_wp2_with (go_at_call 27; (with_reducible refine HI.out.mono ?_); rintro e w1 ⟨rfl, g1⟩)
  go_ret
  exact ⟨ret_b HE.out, g1⟩
/-- What is asked of each item, wherever it is asked. -/
def TellsS (w : World) (g : Nat) (cap : Array Value) (p : ByteArray → Bool) (l : List ByteArray) : Prop :=
  ∀ x ∈ l, ∀ W, w.grownBy W none → Calls Tryz.prog g (#[.string x] ++ cap) W fun e w' => e = .returned (.bool (p x)) ∧ W.grownBy w' none
set_option maxRecDepth 100000 in
set_option maxHeartbeats 1000000 in
theorem ahead1_S (b g : Nat) (cap : Array Value) (x : ByteArray) (q : Bool) (w : World) (hb : Blk w b 66 #[.func (.func g) #[] cap])
    (eg : ∀ args w, (callFunc g args).run Tryz.prog w = .ok (.enter g args) w)
    (H : ∀ W, w.grownBy W none → Calls Tryz.prog g (#[.string x] ++ cap) W fun e w' => e = .returned (.bool q) ∧ W.grownBy w' none) :
    Calls Tryz.prog 37 #[.string x, .pointer (some ⟨b, 0, none⟩)] w fun e w' => e = .returned (.bool (!q)) ∧ w.grownBy w' none := by
  have c0 : w.cell? ⟨b, 0, none⟩ = some (.func (.func g) #[] cap) := Blk.cell hb 0 rfl
  have hlt := hb.lt
  have HC := Lib.hid H
  clear H hb
  go_enter Tryz.func37, Tryz.ntmps37
  go_wp2_with ((with_reducible refine (HC.out _ (gb_refl _ _)).mono ?_); rintro e w1 ⟨rfl, g1⟩)
  go_ret
  exact ⟨rfl, g1⟩
set_option maxRecDepth 100000 in
set_option maxHeartbeats 1000000 in
theorem indexno_S (b : Nat) (v : Value) (l : List ByteArray) (p : ByteArray → Bool) (w : World) (hv : Sts w v l) (hl : l.length ≤ 1000000000000000000) (hA : aheadF p l < l.length)
    (H : ∀ x ∈ l, ∀ W, w.grownBy W none → Calls Tryz.prog 37 #[.string x, .pointer (some ⟨b, 0, none⟩)] W fun e w' => e = .returned (.bool (!p x)) ∧ W.grownBy w' none) :
    Calls Tryz.prog 36 #[v, .func (.func 37) #[] #[.pointer (some ⟨b, 0, none⟩)]] w fun e w' => e = .returned (.int .i64 (aheadF p l : Nat)) ∧ w.grownBy w' none := by
  have HC := Lib.hid H
  have HA := Lib.hid hA
  clear H hA
  obtain ⟨ao, cap, rfl, hcap, hlen, hnil, hcell⟩ := hv
  have HH := Lib.hid hcell
  have HN := Lib.hid hnil
  clear hcell hnil hlen
  go_enter Tryz.func36, Tryz.ntmps36
  go_wp2
  go_loopw [5, 8] (fun _ i wr => ∃ k : Nat, k ≤ l.length ∧ i = .int .i64 k ∧ Hid (∀ x ∈ l.take k, p x = true) ∧ w.grownBy wr none) (fun _ i _ => l.length - (intOf i).toNat)
  case atStart => exact ⟨0, Nat.zero_le _, rfl, Lib.hid (by simp), gb_refl _ _⟩
  case round =>
    obtain ⟨k, hk, rfl, hp, gr⟩ := hrel
    by_cases hlt : k < l.length
    · obtain ⟨x, hx⟩ : ∃ x, l[k]? = some x := ⟨_, List.getElem?_eq_getElem hlt⟩
      cases ao with
      | none => have := (HN.out rfl).1; omega
      | some a =>
        have c0 := gr.cell (HH.out _ rfl k _ (show _ = some (.string x) by simp [strsC, hx])) (by simp)
        have HX := Lib.hid (HC.out x (List.mem_of_getElem? hx) wr gr)
        have HE := Lib.hid hx
        clear hx
        rcases hb : p x with _ | _
        · rw [hb] at HX
          have HB := Lib.hid hb
          clear hb
          go_wp2_with (go_at_call 37; (with_reducible refine HX.out.mono ?_); rintro e w1 ⟨rfl, g1⟩)
          go_ret
          exact ⟨by rw [aheadF_at p l k x HE.out hp.out HB.out]; rfl, gb_trans gr g1⟩
        · rw [hb] at HX
          have HB := Lib.hid hb
          clear hb
          go_wp2_with (go_at_call 37; (with_reducible refine HX.out.mono ?_); rintro e w1 ⟨rfl, g1⟩)
          go_roundw
          case rel => exact ⟨k + 1, by omega, by go_num, Lib.hid (take_all HE.out hp.out HB.out), gb_trans gr g1⟩
          case measure => simp [intOf]; omega
    · go_wp2
      go_ret
      exact absurd (aheadF_end p l (by have h := hp.out; rwa [show k = l.length by omega] at h)) (Nat.ne_of_lt HA.out)
set_option maxRecDepth 100000 in
set_option maxHeartbeats 1000000 in
theorem indexall_S (b : Nat) (v : Value) (l : List ByteArray) (p : ByteArray → Bool) (w : World) (hv : Sts w v l) (hl : l.length ≤ 1000000000000000000) (hA : l.all p = true)
    (H : ∀ x ∈ l, ∀ W, w.grownBy W none → Calls Tryz.prog 37 #[.string x, .pointer (some ⟨b, 0, none⟩)] W fun e w' => e = .returned (.bool (!p x)) ∧ W.grownBy w' none) :
    Calls Tryz.prog 36 #[v, .func (.func 37) #[] #[.pointer (some ⟨b, 0, none⟩)]] w fun e w' => e = .returned (.int .i64 (-1)) ∧ w.grownBy w' none := by
  have HC := Lib.hid H
  have HA := Lib.hid hA
  clear H hA
  obtain ⟨ao, cap, rfl, hcap, hlen, hnil, hcell⟩ := hv
  have HH := Lib.hid hcell
  have HN := Lib.hid hnil
  clear hcell hnil hlen
  go_enter Tryz.func36, Tryz.ntmps36
  go_wp2
  go_loopw [5, 8] (fun _ i wr => ∃ k : Nat, k ≤ l.length ∧ i = .int .i64 k ∧ Hid (∀ x ∈ l.take k, p x = true) ∧ w.grownBy wr none) (fun _ i _ => l.length - (intOf i).toNat)
  case atStart => exact ⟨0, Nat.zero_le _, rfl, Lib.hid (by simp), gb_refl _ _⟩
  case round =>
    obtain ⟨k, hk, rfl, hp, gr⟩ := hrel
    by_cases hlt : k < l.length
    · obtain ⟨x, hx⟩ : ∃ x, l[k]? = some x := ⟨_, List.getElem?_eq_getElem hlt⟩
      cases ao with
      | none => have := (HN.out rfl).1; omega
      | some a =>
        have c0 := gr.cell (HH.out _ rfl k _ (show _ = some (.string x) by simp [strsC, hx])) (by simp)
        have HX := Lib.hid (HC.out x (List.mem_of_getElem? hx) wr gr)
        have HE := Lib.hid hx
        clear hx
        rcases hb : p x with _ | _
        · rw [hb] at HX
          have HB := Lib.hid hb
          clear hb
          go_wp2_with (go_at_call 37; (with_reducible refine HX.out.mono ?_); rintro e w1 ⟨rfl, g1⟩)
          go_ret
          have := List.all_eq_true.1 HA.out x (List.mem_of_getElem? HE.out)
          rw [HB.out] at this; cases this
        · rw [hb] at HX
          have HB := Lib.hid hb
          clear hb
          go_wp2_with (go_at_call 37; (with_reducible refine HX.out.mono ?_); rintro e w1 ⟨rfl, g1⟩)
          go_roundw
          case rel => exact ⟨k + 1, by omega, by go_num, Lib.hid (take_all HE.out hp.out HB.out), gb_trans gr g1⟩
          case measure => simp [intOf]; omega
    · go_wp2
      go_ret
      exact ⟨rfl, gr⟩
set_option maxRecDepth 100000 in
set_option maxHeartbeats 1000000 in
theorem ahead_S (g : Nat) (cap : Array Value) (v : Value) (l : List ByteArray) (p : ByteArray → Bool) (w : World) (hv : Sts w v l) (hl : l.length ≤ 1000000000000000000)
    (eg : ∀ args w, (callFunc g args).run Tryz.prog w = .ok (.enter g args) w) (H : TellsS w g cap p l) :
    Calls Tryz.prog 25 #[v, .func (.func g) #[] cap] w fun e w' => e = .returned (.int .i64 (aheadF p l : Nat)) ∧ w.grownBy w' none := by
  have HC := Lib.hid (show ∀ x ∈ l, ∀ W, (w.alloc (.cells #[.func (.func g) #[] cap] 66)).grownBy W none → Calls Tryz.prog 37 #[.string x, .pointer (some ⟨w.heap.size, 0, none⟩)] W fun e w' => e = .returned (.bool (!p x)) ∧ W.grownBy w' none from
    fun x hx W hW => ahead1_S w.heap.size g cap x (p x) W ((Blk.mk _ _ _).keep0 hW) eg (fun W2 h2 => H x hx W2 (gb_trans (gb_trans (gb_alloc _ _ _) hW) h2)))
  have HV := Lib.hid (stsKeep0 hv (gb_alloc w (.cells #[.func (.func g) #[] cap] 66) none))
  clear eg H
  by_cases hA : l.all p = true
  · have HA := Lib.hid hA
    have HE := Lib.hid ((aheadF_all p l).2 hA)
    clear hA
    rw [HE.out]
    obtain ⟨ao, cp, rfl, hcap, hlen, hnil, hcell⟩ := hv
    clear hcap hlen hnil hcell
    go_enter Tryz.func25, Tryz.ntmps25
    go_wp2_with (go_at_call 36; (with_reducible refine (indexall_S _ _ l p _ HV.out hl HA.out HC.out).mono ?_); rintro e w1 ⟨rfl, g1⟩)
    go_ret
    exact ⟨rfl, gb_trans (gb_alloc _ _ _) g1⟩
  · have hlt : aheadF p l < l.length := by
      have := aheadF_le p l
      rcases Nat.lt_or_ge (aheadF p l) l.length with h | h
      · exact h
      · exact absurd ((aheadF_all p l).1 (by omega)) hA
    have HA := Lib.hid hlt
    clear hA hlt hv
    have HI := Lib.hid (indexno_S _ _ l p _ HV.out hl HA.out HC.out)
    generalize aheadF p l = n at HI ⊢
    go_enter Tryz.func25, Tryz.ntmps25
    go_wp2_with (go_at_call 36; (with_reducible refine HI.out.mono ?_); rintro e w1 ⟨rfl, g1⟩)
    go_ret
    exact ⟨rfl, gb_trans (gb_alloc _ _ _) g1⟩
set_option maxRecDepth 100000 in
set_option maxHeartbeats 1000000 in
theorem areAll_S (g : Nat) (cap : Array Value) (v : Value) (l : List ByteArray) (p : ByteArray → Bool) (w : World) (hv : Sts w v l) (hl : l.length ≤ 1000000000000000000)
    (eg : ∀ args w, (callFunc g args).run Tryz.prog w = .ok (.enter g args) w) (H : TellsS w g cap p l) :
    Calls Tryz.prog 125 #[v, .func (.func g) #[] cap] w fun e w' => e = .returned (.bool (l.all p)) ∧ w.grownBy w' none := by
  have HI := Lib.hid (ahead_S g cap v l p w hv hl eg H)
  have HE := Lib.hid (all_eq p l)
  clear eg H
  generalize aheadF p l = n at HI HE
  obtain ⟨ao, cp, rfl, hcap, hlen, hnil, hcell⟩ := hv
  clear hcap hlen hnil hcell
  go_enter Tryz.func125, Tryz.ntmps125
  go_wp2_with (go_at_call 25; (with_reducible refine HI.out.mono ?_); rintro e w1 ⟨rfl, g1⟩)
  go_ret
  exact ⟨ret_b HE.out, g1⟩
/-- What is asked of each item, wherever it is asked. -/
def TellsI (w : World) (g : Nat) (cap : Array Value) (p : Int → Bool) (l : List Int) : Prop :=
  ∀ x ∈ l, ∀ W, w.grownBy W none → Calls Tryz.prog g (#[.int .i64 x] ++ cap) W fun e w' => e = .returned (.bool (p x)) ∧ W.grownBy w' none
set_option maxRecDepth 100000 in
set_option maxHeartbeats 1000000 in
theorem ahead1_I (b g : Nat) (cap : Array Value) (x : Int) (q : Bool) (w : World) (hb : Blk w b 71 #[.func (.func g) #[] cap])
    (eg : ∀ args w, (callFunc g args).run Tryz.prog w = .ok (.enter g args) w)
    (H : ∀ W, w.grownBy W none → Calls Tryz.prog g (#[.int .i64 x] ++ cap) W fun e w' => e = .returned (.bool q) ∧ W.grownBy w' none) :
    Calls Tryz.prog 134 #[.int .i64 x, .pointer (some ⟨b, 0, none⟩)] w fun e w' => e = .returned (.bool (!q)) ∧ w.grownBy w' none := by
  have c0 : w.cell? ⟨b, 0, none⟩ = some (.func (.func g) #[] cap) := Blk.cell hb 0 rfl
  have hlt := hb.lt
  have HC := Lib.hid H
  clear H hb
  go_enter Tryz.func134, Tryz.ntmps134
  go_wp2_with ((with_reducible refine (HC.out _ (gb_refl _ _)).mono ?_); rintro e w1 ⟨rfl, g1⟩)
  go_ret
  exact ⟨rfl, g1⟩
set_option maxRecDepth 100000 in
set_option maxHeartbeats 1000000 in
theorem indexno_I (b : Nat) (v : Value) (l : List Int) (p : Int → Bool) (w : World) (hv : Ins w v l) (hl : l.length ≤ 1000000000000000000) (hA : aheadF p l < l.length)
    (H : ∀ x ∈ l, ∀ W, w.grownBy W none → Calls Tryz.prog 134 #[.int .i64 x, .pointer (some ⟨b, 0, none⟩)] W fun e w' => e = .returned (.bool (!p x)) ∧ W.grownBy w' none) :
    Calls Tryz.prog 133 #[v, .func (.func 134) #[] #[.pointer (some ⟨b, 0, none⟩)]] w fun e w' => e = .returned (.int .i64 (aheadF p l : Nat)) ∧ w.grownBy w' none := by
  have HC := Lib.hid H
  have HA := Lib.hid hA
  clear H hA
  obtain ⟨ao, cap, rfl, hcap, hlen, hnil, hcell⟩ := hv
  have HH := Lib.hid hcell
  have HN := Lib.hid hnil
  clear hcell hnil hlen
  go_enter Tryz.func133, Tryz.ntmps133
  go_wp2
  go_loopw [5, 8] (fun _ i wr => ∃ k : Nat, k ≤ l.length ∧ i = .int .i64 k ∧ Hid (∀ x ∈ l.take k, p x = true) ∧ w.grownBy wr none) (fun _ i _ => l.length - (intOf i).toNat)
  case atStart => exact ⟨0, Nat.zero_le _, rfl, Lib.hid (by simp), gb_refl _ _⟩
  case round =>
    obtain ⟨k, hk, rfl, hp, gr⟩ := hrel
    by_cases hlt : k < l.length
    · obtain ⟨x, hx⟩ : ∃ x, l[k]? = some x := ⟨_, List.getElem?_eq_getElem hlt⟩
      cases ao with
      | none => have := (HN.out rfl).1; omega
      | some a =>
        have c0 := gr.cell (HH.out _ rfl k _ (show _ = some (.int .i64 x) by simp [inC, hx])) (by simp)
        have HX := Lib.hid (HC.out x (List.mem_of_getElem? hx) wr gr)
        have HE := Lib.hid hx
        clear hx
        rcases hb : p x with _ | _
        · rw [hb] at HX
          have HB := Lib.hid hb
          clear hb
          go_wp2_with (go_at_call 134; (with_reducible refine HX.out.mono ?_); rintro e w1 ⟨rfl, g1⟩)
          go_ret
          exact ⟨by rw [aheadF_at p l k x HE.out hp.out HB.out]; rfl, gb_trans gr g1⟩
        · rw [hb] at HX
          have HB := Lib.hid hb
          clear hb
          go_wp2_with (go_at_call 134; (with_reducible refine HX.out.mono ?_); rintro e w1 ⟨rfl, g1⟩)
          go_roundw
          case rel => exact ⟨k + 1, by omega, by go_num, Lib.hid (take_all HE.out hp.out HB.out), gb_trans gr g1⟩
          case measure => simp [intOf]; omega
    · go_wp2
      go_ret
      exact absurd (aheadF_end p l (by have h := hp.out; rwa [show k = l.length by omega] at h)) (Nat.ne_of_lt HA.out)
set_option maxRecDepth 100000 in
set_option maxHeartbeats 1000000 in
theorem indexall_I (b : Nat) (v : Value) (l : List Int) (p : Int → Bool) (w : World) (hv : Ins w v l) (hl : l.length ≤ 1000000000000000000) (hA : l.all p = true)
    (H : ∀ x ∈ l, ∀ W, w.grownBy W none → Calls Tryz.prog 134 #[.int .i64 x, .pointer (some ⟨b, 0, none⟩)] W fun e w' => e = .returned (.bool (!p x)) ∧ W.grownBy w' none) :
    Calls Tryz.prog 133 #[v, .func (.func 134) #[] #[.pointer (some ⟨b, 0, none⟩)]] w fun e w' => e = .returned (.int .i64 (-1)) ∧ w.grownBy w' none := by
  have HC := Lib.hid H
  have HA := Lib.hid hA
  clear H hA
  obtain ⟨ao, cap, rfl, hcap, hlen, hnil, hcell⟩ := hv
  have HH := Lib.hid hcell
  have HN := Lib.hid hnil
  clear hcell hnil hlen
  go_enter Tryz.func133, Tryz.ntmps133
  go_wp2
  go_loopw [5, 8] (fun _ i wr => ∃ k : Nat, k ≤ l.length ∧ i = .int .i64 k ∧ Hid (∀ x ∈ l.take k, p x = true) ∧ w.grownBy wr none) (fun _ i _ => l.length - (intOf i).toNat)
  case atStart => exact ⟨0, Nat.zero_le _, rfl, Lib.hid (by simp), gb_refl _ _⟩
  case round =>
    obtain ⟨k, hk, rfl, hp, gr⟩ := hrel
    by_cases hlt : k < l.length
    · obtain ⟨x, hx⟩ : ∃ x, l[k]? = some x := ⟨_, List.getElem?_eq_getElem hlt⟩
      cases ao with
      | none => have := (HN.out rfl).1; omega
      | some a =>
        have c0 := gr.cell (HH.out _ rfl k _ (show _ = some (.int .i64 x) by simp [inC, hx])) (by simp)
        have HX := Lib.hid (HC.out x (List.mem_of_getElem? hx) wr gr)
        have HE := Lib.hid hx
        clear hx
        rcases hb : p x with _ | _
        · rw [hb] at HX
          have HB := Lib.hid hb
          clear hb
          go_wp2_with (go_at_call 134; (with_reducible refine HX.out.mono ?_); rintro e w1 ⟨rfl, g1⟩)
          go_ret
          have := List.all_eq_true.1 HA.out x (List.mem_of_getElem? HE.out)
          rw [HB.out] at this; cases this
        · rw [hb] at HX
          have HB := Lib.hid hb
          clear hb
          go_wp2_with (go_at_call 134; (with_reducible refine HX.out.mono ?_); rintro e w1 ⟨rfl, g1⟩)
          go_roundw
          case rel => exact ⟨k + 1, by omega, by go_num, Lib.hid (take_all HE.out hp.out HB.out), gb_trans gr g1⟩
          case measure => simp [intOf]; omega
    · go_wp2
      go_ret
      exact ⟨rfl, gr⟩
set_option maxRecDepth 100000 in
set_option maxHeartbeats 1000000 in
theorem ahead_I (g : Nat) (cap : Array Value) (v : Value) (l : List Int) (p : Int → Bool) (w : World) (hv : Ins w v l) (hl : l.length ≤ 1000000000000000000)
    (eg : ∀ args w, (callFunc g args).run Tryz.prog w = .ok (.enter g args) w) (H : TellsI w g cap p l) :
    Calls Tryz.prog 132 #[v, .func (.func g) #[] cap] w fun e w' => e = .returned (.int .i64 (aheadF p l : Nat)) ∧ w.grownBy w' none := by
  have HC := Lib.hid (show ∀ x ∈ l, ∀ W, (w.alloc (.cells #[.func (.func g) #[] cap] 71)).grownBy W none → Calls Tryz.prog 134 #[.int .i64 x, .pointer (some ⟨w.heap.size, 0, none⟩)] W fun e w' => e = .returned (.bool (!p x)) ∧ W.grownBy w' none from
    fun x hx W hW => ahead1_I w.heap.size g cap x (p x) W ((Blk.mk _ _ _).keep0 hW) eg (fun W2 h2 => H x hx W2 (gb_trans (gb_trans (gb_alloc _ _ _) hW) h2)))
  have HV := Lib.hid (hv.keep0 (gb_alloc w (.cells #[.func (.func g) #[] cap] 71) none))
  clear eg H
  by_cases hA : l.all p = true
  · have HA := Lib.hid hA
    have HE := Lib.hid ((aheadF_all p l).2 hA)
    clear hA
    rw [HE.out]
    obtain ⟨ao, cp, rfl, hcap, hlen, hnil, hcell⟩ := hv
    clear hcap hlen hnil hcell
    go_enter Tryz.func132, Tryz.ntmps132
    go_wp2_with (go_at_call 133; (with_reducible refine (indexall_I _ _ l p _ HV.out hl HA.out HC.out).mono ?_); rintro e w1 ⟨rfl, g1⟩)
    go_ret
    exact ⟨rfl, gb_trans (gb_alloc _ _ _) g1⟩
  · have hlt : aheadF p l < l.length := by
      have := aheadF_le p l
      rcases Nat.lt_or_ge (aheadF p l) l.length with h | h
      · exact h
      · exact absurd ((aheadF_all p l).1 (by omega)) hA
    have HA := Lib.hid hlt
    clear hA hlt hv
    have HI := Lib.hid (indexno_I _ _ l p _ HV.out hl HA.out HC.out)
    generalize aheadF p l = n at HI ⊢
    go_enter Tryz.func132, Tryz.ntmps132
    go_wp2_with (go_at_call 133; (with_reducible refine HI.out.mono ?_); rintro e w1 ⟨rfl, g1⟩)
    go_ret
    exact ⟨rfl, gb_trans (gb_alloc _ _ _) g1⟩
set_option maxRecDepth 100000 in
set_option maxHeartbeats 1000000 in
theorem areAll_I (g : Nat) (cap : Array Value) (v : Value) (l : List Int) (p : Int → Bool) (w : World) (hv : Ins w v l) (hl : l.length ≤ 1000000000000000000)
    (eg : ∀ args w, (callFunc g args).run Tryz.prog w = .ok (.enter g args) w) (H : TellsI w g cap p l) :
    Calls Tryz.prog 128 #[v, .func (.func g) #[] cap] w fun e w' => e = .returned (.bool (l.all p)) ∧ w.grownBy w' none := by
  have HI := Lib.hid (ahead_I g cap v l p w hv hl eg H)
  have HE := Lib.hid (all_eq p l)
  clear eg H
  generalize aheadF p l = n at HI HE
  obtain ⟨ao, cp, rfl, hcap, hlen, hnil, hcell⟩ := hv
  clear hcap hlen hnil hcell
  go_enter Tryz.func128, Tryz.ntmps128
  go_wp2_with (go_at_call 132; (with_reducible refine HI.out.mono ?_); rintro e w1 ⟨rfl, g1⟩)
  go_ret
  exact ⟨ret_b HE.out, g1⟩
end Go.Proofs.YthhimhjegodklaaGreat.N11

