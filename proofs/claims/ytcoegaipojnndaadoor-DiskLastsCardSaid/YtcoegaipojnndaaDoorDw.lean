/-
  One disk of a call's own (wrappers of its operations' contracts), and the chapter's examples (foyerlaw05.works), over this seat's translation; condition: the table of masks reads as the program lays it.
-/
import Derived.Test.YtcoegaipojnndaaDoorDn
namespace Go.Proofs.YtcoegaipojnndaaDoor
open Go.RowKit Go.Maps

/-- A disk of a call's own: all that is its lies in memory that the call made. -/
def PS (w : World) (base p : Nat) (s : St) : Prop := PD w base (fun k => base ≤ k) p s ∧ base ≤ w.heap.size
theorem PS.turn {w w' : World} {base p : Nat} {s s' : St} (h : PS w base p s) (h1 : PD w' base (Nw (fun k => base ≤ k) w w') p s') (h2 : Kp (fun k => base ≤ k) w w') : PS w' base p s' ∧ Below base w w' := by
  obtain ⟨vs, vp, bm, D, hv, hf⟩ := h1
  have h3 := h.2
  have h4 := h2.size
  refine ⟨⟨⟨vs, vp, bm, D, hv, fun k hk => ?_⟩, by omega⟩, h2.below (fun _ hk => hk) h3⟩
  have := hf k hk
  unfold Nw at this
  show base ≤ k
  omega
theorem PS.turn' {w w' : World} {base p : Nat} {s s' : St} (h : PS w base p s) (h1 : PD w' base (fun k => base ≤ k) p s') (h2 : Kp (fun k => base ≤ k) w w') : PS w' base p s' ∧ Below base w w' :=
  ⟨⟨h1, Nat.le_trans h.2 h2.size⟩, h2.below (fun _ hk => hk) h.2⟩
theorem PS.keep0 {w w' : World} {base p : Nat} {s : St} (h : PS w base p s) (g : w.grownBy w' none) : PS w' base p s := ⟨h.1.keep0 g, Nat.le_trans h.2 g.size⟩
theorem gb_base {w w' : World} {base : Nat} (g : w.grownBy w' none) (h : base ≤ w.heap.size) : Below base w w' := (gb_below g).mono h
theorem s_new (z : Int) (n : Nat) (w : World) (base : Nat) (hz : z = (n : Nat)) (hb : base ≤ w.heap.size) (h1 : 64 ≤ n) (h2 : n ≤ 1024) (s' : St) (hs : newS n = s') : Calls Tryd.prog 13 #[.int .i64 z] w fun e w' => ∃ p, e = .returned (.pointer (some ⟨p, 0, none⟩)) ∧ PS w' base p s' ∧ Below base w w' := by
  subst hz; subst hs
  refine (dnew_any n w h1 h2).mono ?_
  rintro e w' ⟨p, rfl, ⟨vs, vp, bm, D, ⟨a1, a2, a3, a4, a5, a6, a7⟩, hf⟩, g⟩
  refine ⟨p, rfl, ⟨⟨vs, vp, bm, D, ⟨a1, owns_less a2 hb, owns_less a3 hb, a4, a5, by omega, by omega⟩, fun k hk => ?_⟩, Nat.le_trans hb g.size⟩, gb_base g hb⟩
  have := (hf k hk).1
  show base ≤ k
  omega
theorem s_read {w : World} {base p : Nat} {s : St} (h : PS w base p s) (i : Int) {N : Nat} (hok : s.Ok N) (hN : N ≤ 5000) (hi : -9223372036854775808 ≤ i ∧ i ≤ 9223372036854775807) (E : Int) (S : ByteArray) (s' : St) (hE : opE s (hasF s i) = E) (hS : readS s i = S) (hs : opS s (hasF s i) = s') :
    Calls Tryd.prog 16 #[.pointer (some ⟨p, 0, none⟩), .int .i64 i] w fun e w' => e = .returned (.tuple #[.string S, .int .i64 E]) ∧ PS w' base p s' ∧ Below base w w' := by
  subst hE; subst hS; subst hs
  exact (dread_any w base _ p s i N h.1 hok hN hi).mono fun e w' h' => ⟨h'.1, h.turn' h'.2.1 h'.2.2⟩
theorem s_write {w : World} {base p : Nat} {s : St} (h : PS w base p s) (i : Int) (d : ByteArray) {N : Nat} (hok : s.Ok N) (hN : N ≤ 5000) (hi : -9223372036854775808 ≤ i ∧ i ≤ 9223372036854775807) (E : Int) (s' : St) (hE : opE s (mayW s i d) = E) (hs : writeT s i d = s') :
    Calls Tryd.prog 18 #[.pointer (some ⟨p, 0, none⟩), .int .i64 i, .string d] w fun e w' => e = .returned (.int .i64 E) ∧ PS w' base p s' ∧ Below base w w' := by
  subst hE; subst hs
  exact (dwrite_any w base _ p s i d N h.1 hok hN h.2 hi).mono fun e w' h' => ⟨h'.1, h.turn h'.2.1 h'.2.2⟩
theorem s_barrier {w : World} {base p : Nat} {s : St} (h : PS w base p s) {N : Nat} (hok : s.Ok N) (hN : N ≤ 5000) (E : Int) (s' : St) (hE : opE s true = E) (hs : barS s = s') :
    Calls Tryd.prog 21 #[.pointer (some ⟨p, 0, none⟩)] w fun e w' => e = .returned (.int .i64 E) ∧ PS w' base p s' ∧ Below base w w' := by
  subst hE; subst hs
  exact (dbarrier_any w base _ p s N h.1 hok hN).mono fun e w' h' => ⟨h'.1, h.turn' h'.2.1 h'.2.2⟩
theorem s_arm {w : World} {base p : Nat} {s : St} (h : PS w base p s) (n : Int) (s' : St) (hs : armS s n = s') :
    Calls Tryd.prog 23 #[.pointer (some ⟨p, 0, none⟩), .int .i64 n] w fun e w' => e = .returned (.tuple #[]) ∧ PS w' base p s' ∧ Below base w w' := by
  subst hs
  exact (darm_any w base _ p s n h.1).mono fun e w' h' => ⟨h'.1, h.turn' h'.2.1 h'.2.2⟩
theorem s_boot {w : World} {base p : Nat} {s : St} (h : PS w base p s) (vc : Value) (cs : List UInt8) {N : Nat} (hok : s.Ok N) (hN : N ≤ 5000) (hm : Masks w) (hc : Bts w vc cs) (s' : St) (hs : bootS s cs = s') :
    Calls Tryd.prog 25 #[.pointer (some ⟨p, 0, none⟩), vc] w fun e w' => e = .returned (.tuple #[]) ∧ PS w' base p s' ∧ Below base w w' := by
  subst hs
  exact (dboot_any w base _ p s vc cs N h.1 hok hN h.2 hm hc).mono fun e w' h' => ⟨h'.1, h.turn h'.2.1 h'.2.2⟩
theorem s_off {w : World} {base p : Nat} {s : St} (h : PS w base p s) (B : Bool) (hB : s.off = B) :
    Calls Tryd.prog 27 #[.pointer (some ⟨p, 0, none⟩)] w fun e w' => e = .returned (.bool B) ∧ PS w' base p s ∧ Below base w w' := by
  subst hB
  exact (doff_any w base _ p s h.1).mono fun e w' h' => by
    obtain ⟨rfl, rfl⟩ := h'
    exact ⟨rfl, h, Below.refl _ _⟩
theorem s_ops {w : World} {base p : Nat} {s : St} (h : PS w base p s) (n : Int) (hn : s.ops = n) :
    Calls Tryd.prog 28 #[.pointer (some ⟨p, 0, none⟩)] w fun e w' => e = .returned (.int .i64 n) ∧ PS w' base p s ∧ Below base w w' := by
  subst hn
  exact (dops_any w base _ p s h.1).mono fun e w' h' => by
    obtain ⟨rfl, rfl⟩ := h'
    exact ⟨rfl, h, Below.refl _ _⟩
theorem s_pending {w : World} {base p : Nat} {s : St} (h : PS w base p s) (n : Int) (hn : ((s.pend.length : Nat) : Int) = n) :
    Calls Tryd.prog 29 #[.pointer (some ⟨p, 0, none⟩)] w fun e w' => e = .returned (.int .i64 n) ∧ PS w' base p s ∧ Below base w w' := by
  subst hn
  exact (dpending_any w base _ p s h.1).mono fun e w' h' => by
    obtain ⟨rfl, rfl⟩ := h'
    exact ⟨rfl, h, Below.refl _ _⟩
theorem s_sectors {w : World} {base p : Nat} {s : St} (h : PS w base p s) (n : Int) (hn : ((s.secs.length : Nat) : Int) = n) :
    Calls Tryd.prog 30 #[.pointer (some ⟨p, 0, none⟩)] w fun e w' => e = .returned (.int .i64 n) ∧ PS w' base p s ∧ Below base w w' := by
  subst hn
  exact (dsectors_any w base _ p s h.1).mono fun e w' h' => by
    obtain ⟨rfl, rfl⟩ := h'
    exact ⟨rfl, h, Below.refl _ _⟩
theorem Masks.lt {w : World} (h : Masks w) : 0 < w.heap.size := cell_lt (h 0 (by omega))
theorem Masks.below {w w' : World} {n : Nat} (h : Masks w) (hb : Below n w w') (hn : 0 < n) : Masks w' := fun k hk => (hb.cell hn).trans (h k hk)
theorem Below.to0 {w w' : World} (h : Below w.heap.size w w') : w.grownBy w' none := gb_of_below h

/-! The states of the chapter's examples. -/
abbrev sA : ByteArray := s5 97
abbrev sB : ByteArray := s5 98
abbrev sX : ByteArray := ⟨#[120]⟩
def q0 : St := newS 64
def q1 : St := writeT q0 3 sA
def q2 : St := opS q1 (hasF q1 3)
def q3 : St := barS q2
def q4 : St := armS q3 1
def q5 : St := writeT q4 3 sB
def q6 : St := opS q5 (hasF q5 3)
def q7 : St := bootS q6 []
def q8 : St := opS q7 (hasF q7 3)
def q9 : St := writeT q8 64 sA
theorem q0_ok : q0.Ok 0 := newS_ok 64 (by omega)
theorem q1_ok : q1.Ok 1 := q0_ok.write 3 sA
theorem q2_ok : q2.Ok 2 := q1_ok.op _
theorem q3_ok : q3.Ok 3 := q2_ok.bar
theorem q4_ok : q4.Ok 3 := q3_ok.arms 1 (by omega)
theorem q5_ok : q5.Ok 4 := q4_ok.write 3 sB
theorem q6_ok : q6.Ok 5 := q5_ok.op _
theorem q7_ok : q7.Ok 5 := q6_ok.boot []
theorem q8_ok : q8.Ok 6 := q7_ok.op _
theorem q9_ok : q9.Ok 7 := q8_ok.write 64 sA
theorem q0_e : opE q0 (mayW q0 3 sA) = 0 := by decide +kernel
theorem q1_p : ((q1.pend.length : Nat) : Int) = 1 := by decide +kernel
theorem q1_e : opE q1 (hasF q1 3) = 0 := by decide +kernel
theorem q1_s : readS q1 3 = sA := by decide +kernel
theorem q2_e : opE q2 true = 0 := by decide +kernel
theorem q3_p : ((q3.pend.length : Nat) : Int) = 0 := by decide +kernel
theorem q3_o : q3.ops = 3 := by decide +kernel
theorem q4_e : opE q4 (mayW q4 3 sB) = 0 := by decide +kernel
theorem q5_e : opE q5 (hasF q5 3) = 10 := by decide +kernel
theorem q5_s : readS q5 3 = noS := by decide +kernel
theorem q6_f : q6.off = true := by decide +kernel
theorem q7_e : opE q7 (hasF q7 3) = 0 := by decide +kernel
theorem q7_s : readS q7 3 = sA := by decide +kernel
theorem q8_e : opE q8 (mayW q8 64 sA) = 2 := by decide +kernel
theorem q9_e : opE q9 (mayW q9 0 sX) = 2 := by decide +kernel
end Go.Proofs.YtcoegaipojnndaaDoor
