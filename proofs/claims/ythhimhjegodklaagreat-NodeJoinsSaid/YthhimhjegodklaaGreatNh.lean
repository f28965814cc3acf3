/-
  Whether a node may be, and how many bytes it has, by the program's own calls (mayBe, size), over this seat's translation; conditions: the node lies as it is told, it has at most a million of each.
-/
import Derived.Test.YthhimhjegodklaaGreatNg
namespace Go.Proofs.YthhimhjegodklaaGreat.N11
set_option linter.unusedSimpArgs false
set_option linter.unusedVariables false
open Go.RowKit
theorem enters_isCell : ∀ args w, (callFunc 104 args).run Tryz.prog w = .ok (.enter 104 args) w := enters_of Tryz.func104 (by kernel_rfl) rfl
theorem enters_isKey : ∀ args w, (callFunc 63 args).run Tryz.prog w = .ok (.enter 63 args) w := enters_of Tryz.func63 (by kernel_rfl) rfl
theorem enters_isPage : ∀ args w, (callFunc 60 args).run Tryz.prog w = .ok (.enter 60 args) w := enters_of Tryz.func60 (by kernel_rfl) rfl
theorem tells_cell (w : World) (l : List Ce) : TellsC w 104 #[] cellB l := fun x _ W _ => isCell_any x.key x.val x.fi x.lo W
theorem tells_key (w : World) (l : List ByteArray) : TellsS w 63 #[] keyB l := fun x _ W _ => (isKey_any x W).mono (fun _ _ h => ⟨h.1, h.2 ▸ gb_refl _ _⟩)
theorem tells_page (w : World) (l : List Int) : TellsI w 60 #[] pageB l := fun x _ W _ => (isPage_any x W).mono (fun _ _ h => ⟨h.1, h.2 ▸ gb_refl _ _⟩)
/-- What a slice is. -/
theorem _root_.Go.Proofs.YthhimhjegodklaaGreat.Sl.shape {k : Nat} {w : World} {v : Value} {n : Nat} {cs : List Value} (h : Sl k w v n cs) : ∃ ao cap, v = .slice ao n cap := by
  obtain ⟨ao, cap, rfl, _⟩ := h; exact ⟨ao, cap, rfl⟩
/-- It is neither too long. -/
structure Nd.Ok (n : Nd) : Prop where
  cells : n.cells.length ≤ 1000000
  keys : n.keys.length ≤ 1000000
  kids : n.kids.length ≤ 1000000
theorem ne_dec {a b : Nat} (h : a ≠ b) : ((a : Int) != b) = true := by simp; omega
def mayL (cs : List Ce) (nk ni : Nat) : Bool := decide (0 < cs.length) && decide (nk = 0) && decide (ni = 0) && cs.all cellB && riseF (cs.map Ce.key)
def mayI (nc : Nat) (ks : List ByteArray) (is : List Int) : Bool := decide (nc = 0) && decide (0 < ks.length) && decide (is.length = ks.length + 1) && ks.all keyB && riseF ks && is.all pageB
set_option maxRecDepth 100000 in
set_option maxHeartbeats 1000000 in
theorem mayL_any (lf : Bool) (a b c : Value) (cs : List Ce) (ks : List ByteArray) (is : List Int) (w : World) (ha : Ces w a cs) (hb : Sts w b ks) (hc : Ins w c is) (hl : cs.length ≤ 1000000) :
    Calls Tryz.prog 94 #[.agg #[.bool lf, a, b, c]] w fun e w' => e = .returned (.bool (mayL cs ks.length is.length)) ∧ w.grownBy w' none := by
  have HA : Hid (∀ W, w.grownBy W none → Calls Tryz.prog 103 #[a, .func (.func 104) #[] #[]] W fun e w' => e = .returned (.bool (cs.all cellB)) ∧ W.grownBy w' none) :=
    Lib.hid (fun W g => areAll_C _ _ _ _ _ W (ha.keep0 g) (by omega) enters_isCell (tells_cell W cs))
  have HR : Hid (∀ W, w.grownBy W none → Calls Tryz.prog 105 #[a, .func (.func 106) #[] #[]] W fun e w' => e = .returned (.bool (riseF (cs.map Ce.key))) ∧ W.grownBy w' none) :=
    Lib.hid (fun W g => rise_C _ _ W (ha.keep0 g) (by omega))
  have HB := Lib.hid (show mayL cs ks.length is.length = (decide (0 < cs.length) && decide (ks.length = 0) && decide (is.length = 0) && cs.all cellB && riseF (cs.map Ce.key)) from rfl)
  generalize mayL cs ks.length is.length = mb at HB ⊢
  generalize cs.all cellB = b1 at HA HB
  generalize riseF (cs.map Ce.key) = b2 at HR HB
  obtain ⟨ao, ca, rfl⟩ := Sl.shape ha
  obtain ⟨bo, cb, rfl⟩ := Sl.shape hb
  obtain ⟨co, cc, rfl⟩ := Sl.shape hc
  clear ha hb hc
  generalize cs.length = n1 at HA HR HB hl ⊢
  generalize ks.length = n2 at HB ⊢
  generalize is.length = n3 at HB ⊢
  rcases Nat.eq_zero_or_pos n1 with rfl | h1
  · go_enter Tryz.func94, Tryz.ntmps94
    go_wp2
    go_ret
    exact ⟨ret_b (by rw [HB.out]; simp), gb_alloc _ _ _⟩
  rcases Nat.eq_zero_or_pos n2 with rfl | h2
  rotate_left
  · have z1 : ((n1 : Int) == 0) = false := by simp; omega
    have z2 : 0 < (n2 : Int) := by omega
    go_enter Tryz.func94, Tryz.ntmps94
    go_wp2
    go_ret
    exact ⟨ret_b (by rw [HB.out, decide_eq_false (show ¬ n2 = 0 by omega)]; simp), gb_alloc _ _ _⟩
  rcases Nat.eq_zero_or_pos n3 with rfl | h3
  rotate_left
  · have z1 : ((n1 : Int) == 0) = false := by simp; omega
    have z3 : 0 < (n3 : Int) := by omega
    go_enter Tryz.func94, Tryz.ntmps94
    go_wp2
    go_ret
    exact ⟨ret_b (by rw [HB.out, decide_eq_false (show ¬ n3 = 0 by omega)]; simp), gb_alloc _ _ _⟩
  have z1 : ((n1 : Int) == 0) = false := by simp; omega
  have HB2 : Hid (mb = (b1 && b2)) := Lib.hid (by rw [HB.out, decide_eq_true h1]; simp)
  clear HB
  cases b1
  · go_enter Tryz.func94, Tryz.ntmps94
    go_wp2_with (go_at_call 103; (with_reducible refine (HA.out _ (gb_alloc _ _ _)).mono ?_); rintro e w1 ⟨rfl, g1⟩)
    go_ret
    exact ⟨ret_b (by rw [HB2.out]; rfl), gb_trans (gb_alloc _ _ _) g1⟩
  · go_enter Tryz.func94, Tryz.ntmps94
    go_wp2_with (first
      | (go_at_call 103; (with_reducible refine (HA.out _ (gb_alloc _ _ _)).mono ?_); rintro e w1 ⟨rfl, g1⟩; have k1 := (Blk.mk w 69 _).keep0 g1; have c1 := k1.cell 1 rfl; replace g1 := gb_trans (gb_alloc _ _ _) g1; clear k1)
      | (go_at_call 105; (with_reducible refine (HR.out _ g1).mono ?_); rintro e w2 ⟨rfl, g2⟩))
    go_ret
    exact ⟨ret_b (by rw [HB2.out]; simp), gb_trans g1 g2⟩
set_option maxRecDepth 100000 in
set_option maxHeartbeats 1000000 in
theorem mayI_any (lf : Bool) (a b c : Value) (cs : List Ce) (ks : List ByteArray) (is : List Int) (w : World) (ha : Ces w a cs) (hb : Sts w b ks) (hc : Ins w c is) (hl : ks.length ≤ 1000000) (hli : is.length ≤ 1000000) :
    Calls Tryz.prog 117 #[.agg #[.bool lf, a, b, c]] w fun e w' => e = .returned (.bool (mayI cs.length ks is)) ∧ w.grownBy w' none := by
  have HA : Hid (∀ W, w.grownBy W none → Calls Tryz.prog 125 #[b, .func (.func 63) #[] #[]] W fun e w' => e = .returned (.bool (ks.all keyB)) ∧ W.grownBy w' none) :=
    Lib.hid (fun W g => areAll_S _ _ _ _ _ W (stsKeep0 hb g) (by omega) enters_isKey (tells_key W ks))
  have HR : Hid (∀ W, w.grownBy W none → Calls Tryz.prog 126 #[b, .func (.func 127) #[] #[]] W fun e w' => e = .returned (.bool (riseF ks)) ∧ W.grownBy w' none) :=
    Lib.hid (fun W g => rise_S _ _ W (stsKeep0 hb g) (by omega))
  have HK : Hid (∀ W, w.grownBy W none → Calls Tryz.prog 128 #[c, .func (.func 60) #[] #[]] W fun e w' => e = .returned (.bool (is.all pageB)) ∧ W.grownBy w' none) :=
    Lib.hid (fun W g => areAll_I _ _ _ _ _ W (hc.keep0 g) (by omega) enters_isPage (tells_page W is))
  have HB := Lib.hid (show mayI cs.length ks is = (decide (cs.length = 0) && decide (0 < ks.length) && decide (is.length = ks.length + 1) && ks.all keyB && riseF ks && is.all pageB) from rfl)
  generalize mayI cs.length ks is = mb at HB ⊢
  generalize ks.all keyB = b1 at HA HB
  generalize riseF ks = b2 at HR HB
  generalize is.all pageB = b3 at HK HB
  obtain ⟨ao, ca, rfl⟩ := Sl.shape ha
  obtain ⟨bo, cb, rfl⟩ := Sl.shape hb
  obtain ⟨co, cc, rfl⟩ := Sl.shape hc
  clear ha hb hc
  generalize cs.length = n1 at HB ⊢
  generalize ks.length = n2 at HA HR HB hl ⊢
  generalize is.length = n3 at HK HB hli ⊢
  rcases Nat.eq_zero_or_pos n1 with rfl | h1
  rotate_left
  · have z1 : 0 < (n1 : Int) := by omega
    go_enter Tryz.func117, Tryz.ntmps117
    go_wp2
    go_ret
    exact ⟨ret_b (by rw [HB.out, decide_eq_false (show ¬ n1 = 0 by omega)]; simp), gb_alloc _ _ _⟩
  rcases Nat.eq_zero_or_pos n2 with rfl | h2
  · go_enter Tryz.func117, Tryz.ntmps117
    go_wp2
    go_ret
    exact ⟨ret_b (by rw [HB.out]; simp), gb_alloc _ _ _⟩
  have z2 : ((n2 : Int) == 0) = false := by simp; omega
  by_cases h3 : n3 = n2 + 1
  rotate_left
  · have z3 : ((n3 : Int) != (n2 : Int) + 1) = true := by simp; omega
    have H3 := Lib.hid h3
    clear h3
    go_enter Tryz.func117, Tryz.ntmps117
    go_wp2
    go_ret
    exact ⟨ret_b (by rw [HB.out, decide_eq_false H3.out]; simp), gb_alloc _ _ _⟩
  have z3 : ((n3 : Int) != (n2 : Int) + 1) = false := by simp; omega
  have HB2 : Hid (mb = (b1 && b2 && b3)) := Lib.hid (by rw [HB.out, decide_eq_true h2, decide_eq_true h3]; simp)
  clear HB h3
  cases b1
  · go_enter Tryz.func117, Tryz.ntmps117
    go_wp2_with (go_at_call 125; (with_reducible refine (HA.out _ (gb_alloc _ _ _)).mono ?_); rintro e w1 ⟨rfl, g1⟩)
    go_ret
    exact ⟨ret_b (by rw [HB2.out]; rfl), gb_trans (gb_alloc _ _ _) g1⟩
  cases b2
  · go_enter Tryz.func117, Tryz.ntmps117
    go_wp2_with (first
      | (go_at_call 125; (with_reducible refine (HA.out _ (gb_alloc _ _ _)).mono ?_); rintro e w1 ⟨rfl, g1⟩; have k1 := (Blk.mk w 70 _).keep0 g1; have c1 := k1.cell 2 rfl; replace g1 := gb_trans (gb_alloc _ _ _) g1; clear k1)
      | (go_at_call 126; (with_reducible refine (HR.out _ g1).mono ?_); rintro e w2 ⟨rfl, g2⟩))
    go_ret
    exact ⟨ret_b (by rw [HB2.out]; rfl), gb_trans g1 g2⟩
  · go_enter Tryz.func117, Tryz.ntmps117
    go_wp2_with (first
      | (go_at_call 125; (with_reducible refine (HA.out _ (gb_alloc _ _ _)).mono ?_); rintro e w1 ⟨rfl, g1⟩; have k1 := (Blk.mk w 70 _).keep0 g1; have c1 := k1.cell 2 rfl; replace g1 := gb_trans (gb_alloc _ _ _) g1)
      | (go_at_call 126; (with_reducible refine (HR.out _ g1).mono ?_); rintro e w2 ⟨rfl, g2⟩; replace k1 := k1.keep0 g2; have c2 := k1.cell 3 rfl; replace g2 := gb_trans g1 g2; clear k1)
      | (go_at_call 128; (with_reducible refine (HK.out _ g2).mono ?_); rintro e w3 ⟨rfl, g3⟩))
    go_ret
    exact ⟨ret_b (by rw [HB2.out]; simp), gb_trans g2 g3⟩
end Go.Proofs.YthhimhjegodklaaGreat.N11

