/-
  What Put, Get and Drop answer of a transaction that is over, or none; a page that is written over; over this seat's translation; conditions: those that each law states.
-/
import Derived.Test.YtliiooldlooagaaGreatDoorZD4
import Derived.Test.YtliiooldlooagaaGreatDoorZO3
import Derived.Test.YtliiooldlooagaaGreatDoorZROOT2
set_option linter.unusedSimpArgs false
set_option linter.unusedVariables false
namespace Go.Proofs.YtliiooldlooagaaGreatDoor.O12
open Go.RowKit Go.Maps Go.Shelf J10
attribute [local go_sem] Oper.semAt_some
theorem new_gone {w : World} {x : Nat} (h : OverB w x) (kd : Int) (b : ByteArray) : Calls Tryz.prog 27 #[.pointer (some ⟨x, 0, none⟩), .int .i64 kd, .string b] w fun e w' => e = .returned (.tuple #[.int .i64 0, .int .i64 22]) ∧ w = w' := by
  go_enter Tryz.func27, Tryz.ntmps27
  go_wp2_with (go_at_call 29; (with_reducible refine (refuses_over h).mono ?_); rintro e w' ⟨rfl, rfl⟩)
  go_ret2
  exact ⟨rfl, rfl⟩
theorem write_live {w : World} {base p : Nat} {F : Nat → Prop} {y : Bx} {n : Nat} {g0 : Pg} {V V' : Pgs} {N z : Nat} (h : Live w base p F y n g0 V V' N z) (hT : M6.Tab w) (hn : n < 1000000) {q : Int} {kd : Nat} {b : ByteArray} (h1 : 1 ≤ kd) (h2 : kd ≤ 254) (h3 : b.size ≤ 240) (hq : V' q ≠ none) (hz : 0 < z) {kz : Int} (hkz : ((kd : Nat) : Int) = kz) :
    Calls Tryz.prog 18 #[.pointer (some ⟨y.x, 0, none⟩), .int .i64 q, .int .i64 kz, .string b] w fun e w' => e = .returned (.int .i64 0) ∧ ∃ n' z', n' ≤ n + 1 ∧ D5.Kp (footT y) w w' ∧ Live w' base p F y n' g0 V (upd V' q (kd, b)) N z' := by
  subst hkz
  obtain ⟨k, g, T, q1, q2, q3, q4, q5, q6⟩ := h
  refine (write_room q4 q5 hT hn q h1 h2 h3 hq ((left_pos T.m).2 (by omega))).mono fun e w' hh => ?_
  obtain ⟨e1, n', T', hn', hT', hO, hk⟩ := hh
  exact ⟨e1, n', _, hn', hk, k, g, T', q1, q2, q3, hT', hO, rfl⟩
theorem abort_live {w : World} {base p : Nat} {F : Nat → Prop} {y : Bx} {n : Nat} {g0 : Pg} {V V' : Pgs} {N z : Nat} (h : Live w base p F y n g0 V V' N z) (hF : ∀ i, F i → base ≤ i) : Calls Tryz.prog 20 #[.pointer (some ⟨y.x, 0, none⟩)] w fun e w' => e = .returned (.tuple #[]) ∧ OverB w' y.x ∧ D5.Kp (fun i => base ≤ i) w w' := by
  obtain ⟨k, g, T, q1, q2, q3, q4, q5, q6⟩ := h
  refine (abort_any q4).mono fun e w' hh => ?_
  obtain ⟨e1, _, e3, e4⟩ := hh
  exact ⟨e1, e3, e4.mono fun i hi => by rcases hi with rfl | rfl; exact q4.ge _ (.inl (.inl rfl)); exact q4.ge _ (.inr (.inl rfl))⟩
theorem drop_gone {w : World} {x : Nat} (h : OverB w x) (q : Int) : Calls Tryz.prog 19 #[.pointer (some ⟨x, 0, none⟩), .int .i64 q] w fun e w' => e = .returned (.int .i64 22) ∧ w = w' := by
  go_enter Tryz.func19, Tryz.ntmps19
  go_wp2_with (go_at_call 44; (with_reducible refine (lacks_over h q).mono ?_); rintro e w' ⟨rfl, rfl⟩)
  go_ret
  exact ⟨rfl, rfl⟩
theorem drop_nilT (q : Int) (w : World) : Calls Tryz.prog 19 #[.pointer none, .int .i64 q] w fun e w' => e = .returned (.int .i64 1) ∧ w = w' := by
  go_enter Tryz.func19, Tryz.ntmps19
  go_wp2_with (go_at_call 44; (with_reducible refine (lacks_nil q _).mono ?_); rintro e w' ⟨rfl, rfl⟩)
  go_ret
  exact ⟨rfl, rfl⟩
/-- A transaction that is over, or none: what its New and Drop answer, whatever is made behind it. -/
structure Gone (t : Option Addr) (c : Int) (w : World) : Prop where
  nw : ∀ W, D5.Kp (fun i => w.heap.size ≤ i) w W → ∀ kd b, Calls Tryz.prog 27 #[.pointer t, .int .i64 kd, .string b] W fun e w' => e = .returned (.tuple #[.int .i64 0, .int .i64 c]) ∧ W = w'
  dr : ∀ W, D5.Kp (fun i => w.heap.size ≤ i) w W → ∀ q, Calls Tryz.prog 19 #[.pointer t, .int .i64 q] W fun e w' => e = .returned (.int .i64 c) ∧ W = w'
  rd : ∀ W, D5.Kp (fun i => w.heap.size ≤ i) w W → ∀ q, Calls Tryz.prog 71 #[.pointer t, .int .i64 q] W fun e w' => e = .returned (.tuple #[.int .i64 0, .string noE, .int .i64 c]) ∧ W.grownBy w' none
theorem gone_over {w : World} {x : Nat} (h : OverB w x) : Gone (some ⟨x, 0, none⟩) 22 w := by
  have k : ∀ W, D5.Kp (fun i => w.heap.size ≤ i) w W → OverB W x := fun W k => k.blk h (fun e => by have := h.lt; omega)
  exact ⟨fun W g kd b => new_gone (k W g) kd b, fun W g q => drop_gone (k W g) q, fun W g q => read_gone (k W g) q⟩
theorem gone_nil (w : World) : Gone none 1 w := ⟨fun W _ kd b => new_nil kd b W, fun W _ q => drop_nilT q W, fun W _ q => read_nilT q W⟩
theorem Gone.kp {t : Option Addr} {c : Int} {w w' : World} (h : Gone t c w) (k : D5.Kp (fun i => w.heap.size ≤ i) w w') : Gone t c w' :=
  have e : ∀ W, D5.Kp (fun i => w'.heap.size ≤ i) w' W → D5.Kp (fun i => w.heap.size ≤ i) w W := fun W g => k.trans (g.mono fun i hi => Nat.le_trans k.size hi)
  ⟨fun W g => h.nw W (e W g), fun W g => h.dr W (e W g), fun W g => h.rd W (e W g)⟩
set_option maxRecDepth 100000 in
set_option maxHeartbeats 4000000 in
/-- Nothing was made. -/
theorem letGo_gone {t : Option Addr} {c : Int} {w : World} (h : Gone t c w) : Calls Tryz.prog 25 #[.pointer t, .slice none 0 0] w fun e w' => e = .returned (.tuple #[]) ∧ w.grownBy w' none := by
  have H0 := Lib.hid h
  clear h
  refine (callsIn_wide (n := 5)).1 ?_
  refine callsIn_of_wp_marks Tryz.func25 rfl trivial ?_ rfl
  simp only [Tryz.ntmps25, List.size_toArray, List.length_cons, List.length_nil, Nat.reduceAdd, Nat.reduceSub, Array.replicate_succ, Array.replicate_zero, List.push_toArray, List.append_toArray, List.nil_append, List.cons_append]
  gi_wp2_with (refine ⟨trivial, ?_⟩; gi_at_call 51; (with_reducible refine (callsIn_wide.2 (backward_any _ _ _ _)).mono ?_); rintro e w' ⟨rfl, rfl⟩)
  have b0 := (Blk.mk w 26 #[.pointer t]).keep0 (gb_alloc _ (.cells #[.slice none 0 0] 40) none)
  have b1 := Blk.mk (w.alloc (.cells #[.pointer t] 26)) 40 #[.slice none 0 0]
  have gg : w.grownBy ((w.alloc (.cells #[.pointer t] 26)).alloc (.cells #[.slice none 0 0] 40)) none := gb_trans (gb_alloc _ _ _) (gb_alloc _ _ _)
  have hsz : ((w.alloc (.cells #[.pointer t] 26)).alloc (.cells #[.slice none 0 0] 40)).heap.size = w.heap.size + 2 := by simp
  simp only [World.size_alloc] at b1
  generalize (w.alloc (.cells #[.pointer t] 26)).alloc (.cells #[.slice none 0 0] 40) = W0 at b0 b1 gg hsz ⊢
  have hR0 : ∀ W, RowZ 0 [] (.slice none 0 0) W := fun W => World.ownsRow_nil _ _ _ _
  have hI0 : Blk W0 w.heap.size 26 #[.pointer t] ∧ Blk W0 (w.heap.size + 1) 40 #[.slice none 0 0] ∧ D5.Kp (fun i => w.heap.size ≤ i) w W0 := ⟨b0, b1, D5.Kp.of0 gg⟩
  refine wpIn_rangeFunc_ownG (a₁ := ?fr) rfl (by omega) (gf := 88) (lb := #[.pointer (some ⟨w.heap.size + 1, 0, none⟩)]) rfl trivial (enters_of Tryz.func88 (by kernel_rfl) rfl)
    (backward_stops _ (by omega) (w.heap.size + 1) (.slice none 0 0) [] (by simp) W0 ⟨b1.cell 0 rfl, Sl.of_owns (hR0 W0)⟩) keepI_t keepI_b (Below.refl _ _) (fun _ => rfl)
    (fun pre W => Blk W w.heap.size 26 #[.pointer t] ∧ Blk W (w.heap.size + 1) 40 #[.slice none 0 0] ∧ D5.Kp (fun i => w.heap.size ≤ i) w W) (fun _ _ _ => False)
    (fun pre W W' row h g hr => by
      have hr2 : ∀ r, row = some r → w.heap.size + 2 ≤ r := fun r e => by have := (hr r e).1; omega
      obtain ⟨h1, h2, h3⟩ := h
      exact ⟨h1.keep g (fun e => by have := hr2 _ e.symm; omega), h2.keep g (fun e => by have := hr2 _ e.symm; omega), kp_own h3 g hr2 (by omega)⟩)
    (fun _ _ _ _ _ h _ _ => h)
    hI0 ?assign ?body ?done ?stop
  case assign =>
    intro l x W K hK
    gi_wp2
    exact hK
  case body =>
    rintro q pre x W ⟨h1, h2, h3⟩ hpl
    have c0 := h1.cell 0 rfl
    have HD := Lib.hid (H0.out.dr W h3 x.2)
    have H1 := Lib.hid h1
    have H2 := Lib.hid h2
    have H3 := Lib.hid h3
    clear h1 h2 h3
    gi_wp2_with (refine ⟨trivial, ?_⟩; gi_at_call 19; (with_reducible refine (D5.callsIn_round HD.out).mono ?_); rintro e w2 ⟨rfl, rfl⟩)
    exact ⟨kp_keepsFrom (D5.Kp.refl (fun _ => False) W) (fun i hi => hi.elim), fun _ => ⟨H2.out.cell 0 rfl, Sl.of_owns (hR0 W)⟩, H1.out, H2.out, H3.out⟩
  case done =>
    rintro D ys W hD hys ⟨h1, h2, h6⟩ hK
    have hr : ∀ r, some D = some r → w.heap.size ≤ r := fun r e => by cases e; omega
    refine ⟨by simp, .inl ⟨_, _, rfl, run_takeDeferred hK, ?_⟩⟩
    refine ⟨_, results_none rfl _ _ _, ?_⟩
    exact ⟨rfl, (kp_own h6 (grownBy_putObj' _ D _) hr (Nat.le_refl _)).gb fun _ h => .inr h⟩
  case stop =>
    rintro D c pre W hD _ hf _
    exact hf.elim
theorem link_gone {t : Option Addr} {c : Int} {w : World} (h : Gone t c w) (hc : c = 1 ∨ c = 22) (q : Int) : Calls Tryz.prog 37 #[.pointer t, .int .i64 q] w fun e w' => e = .returned (.tuple #[.agg #[.int .i64 0, .string noE], .int .i64 c]) ∧ w.grownBy w' none := by
  have hR : linkR 0 noE c = .returned (.tuple #[.agg #[.int .i64 0, .string noE], .int .i64 c]) := by rcases hc with rfl | rfl <;> rfl
  rw [← hR]
  refine (link_walk (F := fun _ => False) (R := fun _ => True) (fun _ h => h.elim) (fun W gW => (h.rd W (D5.Kp.of0 gW) q).mono fun e w' hh => ⟨hh.1, D5.Kp.of0 hh.2, trivial⟩) (fun _ _ _ _ => trivial) (by omega)).mono fun e w' hh => ?_
  exact ⟨hh.1, hh.2.1.gb fun _ h => h.elim⟩
set_option maxRecDepth 100000 in
set_option maxHeartbeats 4000000 in
theorem get_gone {t : Option Addr} {c : Int} {w : World} (h : Gone t c w) (hc : c = 1 ∨ c = 22) (first : Int) {len : Nat} (hl1 : 1 ≤ len) (hl2 : len ≤ 2000) {zl : Int} (hzl : ((len : Nat) : Int) = zl) :
    Calls Tryz.prog 15 #[.pointer t, .int .i64 first, .int .i64 zl] w fun e w' => e = .returned (.tuple #[.string noE, .int .i64 c]) ∧ w.grownBy w' none := by
  subst hzl
  have H0 := Lib.hid h
  have HN := Lib.hid (fun w => need_any (len : Int) (show In64 (len : Int) from ⟨by omega, by omega⟩) w)
  have hne : need len ≠ 0 := fun e => by have := need_zero.1 e; omega
  rw [needZ_nat hl2] at HN
  obtain ⟨m, hm⟩ : ∃ m, need len = m := ⟨_, rfl⟩
  rw [hm] at HN hne
  have HCc := Lib.hid hc
  have hcn : (c != 0) = true := by rcases hc with rfl | rfl <;> rfl
  have hc0 : c ≠ 0 := by rcases hc with rfl | rfl <;> decide
  clear h hm hc
  have hmz : (((m : Nat) : Int) == 0) = false := by simp; omega
  go_enter Tryz.func15, Tryz.ntmps15
  go_wp2_with (first
    | (go_at_call 10; (with_reducible refine (HN.out _).mono ?_); rintro e w1 ⟨rfl, rfl⟩)
    | fail)
  go_loopw [9] (fun q wr => q = .int .i64 first ∧ IsB w.heap.size w.heap.size [] wr ∧ w.grownBy wr none) (fun _ _ => 0)
  case atStart => exact ⟨rfl, IsB.new w, gb_alloc _ _ none⟩
  case round =>
    obtain ⟨rfl, hB, hg⟩ := hrel
    have HB := Lib.hid hB
    have Hg := Lib.hid hg
    have HC := Lib.hid (link_gone (H0.out.kp (D5.Kp.of0 hg)) HCc.out first)
    have hlt : (0 : Int) < (len : Int) := by omega
    clear hB hg
    go_wp2_with (first
      | (go_at_call 36; (with_reducible refine (bl_len HB.out).mono ?_); rintro e w' ⟨rfl, rfl⟩)
      | (go_at_call 37; (with_reducible refine HC.out.mono ?_); rintro e w1 ⟨rfl, g1⟩; have bL := Blk.mk w1 66 #[.int .i64 0, .string noE]; have g1 := Lib.hid g1)
      | fail)
    go_ret2
    exact ⟨rfl, gb_trans (gb_trans Hg.out g1.out) (gb_alloc _ _ none)⟩
set_option maxRecDepth 100000 in
set_option maxHeartbeats 4000000 in
theorem pages_gone {t : Option Addr} {c : Int} {w : World} (h : Gone t c w) (hc : c = 1 ∨ c = 22) (first : Int) :
    Calls Tryz.prog 21 #[.pointer t, .int .i64 first] w fun e w' => e = .returned (.tuple #[.slice none 0 0, .int .i64 c]) ∧ w.grownBy w' none := by
  have H0 := Lib.hid h
  have HCc := Lib.hid hc
  have hcn : (c != 0) = true := by rcases hc with rfl | rfl <;> rfl
  have hc0 : c ≠ 0 := by rcases hc with rfl | rfl <;> decide
  clear h hc
  go_enter Tryz.func21, Tryz.ntmps21
  go_wp2
  go_loopw [6, 7] (fun v q wr => v = .slice none 0 0 ∧ q = .int .i64 first ∧ w = wr) (fun _ _ _ => 0)
  case atStart => exact ⟨rfl, rfl, rfl⟩
  case round =>
    obtain ⟨rfl, rfl, rfl⟩ := hrel
    have HC := Lib.hid (link_gone H0.out HCc.out first)
    go_wp2_with (first
      | (go_at_call 37; (with_reducible refine HC.out.mono ?_); rintro e w1 ⟨rfl, g1⟩; have g1 := Lib.hid g1)
      | fail)
    go_ret2
    exact ⟨rfl, gb_trans g1.out (gb_alloc _ _ none)⟩
set_option maxRecDepth 100000 in
theorem chainDrop_gone {t : Option Addr} {c : Int} {w : World} (h : Gone t c w) (hc : c = 1 ∨ c = 22) (first : Int) :
    Calls Tryz.prog 11 #[.pointer t, .int .i64 first] w fun e w' => e = .returned (.int .i64 c) ∧ w.grownBy w' none := by
  have HP := Lib.hid (pages_gone h hc first)
  have hcn : (c != 0) = true := by rcases hc with rfl | rfl <;> rfl
  have hc0 : c ≠ 0 := by rcases hc with rfl | rfl <;> decide
  clear h hc
  go_enter Tryz.func11, Tryz.ntmps11
  go_wp2_with (first
    | (go_at_call 21; (with_reducible refine HP.out.mono ?_); rintro e w1 ⟨rfl, g1⟩; have g1 := Lib.hid g1)
    | fail)
  go_ret
  exact ⟨rfl, g1.out⟩
end Go.Proofs.YtliiooldlooagaaGreatDoor.O12
