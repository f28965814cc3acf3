/-
  The document's own disk (foyerref05): goes, Read, Write, Barrier, Arm, over this seat's translation; conditions: the disk lies as Dk0 tells, its counts are small.
-/
import Derived.Test.YtcoegaipojnndaaDoorDk4
namespace Go.Proofs.YtcoegaipojnndaaDoor
open Go.RowKit Go.Maps

def rkC (vs vp : Value) (fuse : Int) (s : St) : Array Value := #[vs, vp, .bool s.off, .bool s.armed, .int .i64 fuse, .int .i64 s.ops]
theorem rk_cells {w : World} {p : Nat} {vs vp : Value} {fuse : Int} {s : St} (h : Blk w p 56 (rkC vs vp fuse s)) :
    w.cell? ⟨p, 0, none⟩ = some vs ∧ w.cell? ⟨p, 1, none⟩ = some vp ∧ w.cell? ⟨p, 2, none⟩ = some (.bool s.off) ∧ w.cell? ⟨p, 3, none⟩ = some (.bool s.armed) ∧ w.cell? ⟨p, 4, none⟩ = some (.int .i64 fuse) ∧ w.cell? ⟨p, 5, none⟩ = some (.int .i64 s.ops) :=
  ⟨h.cell 0 rfl, h.cell 1 rfl, h.cell 2 rfl, h.cell 3 rfl, h.cell 4 rfl, h.cell 5 rfl⟩
theorem rdv_turn {w w' : World} {base p : Nat} {vs vp : Value} {fuse fuse' : Int} {s s' : St} (h : RDv w base p vs vp fuse s) (h1 : s'.secs = s.secs) (h2 : s'.pend = s.pend) (hb : Blk w' p 56 (rkC vs vp fuse' s')) (hf : s'.armed = true → fuse' = s'.left) (g : w.grownBy w' (some p)) : RDv w' base p vs vp fuse' s' := by
  obtain ⟨a1, a2, a3, a4, a5⟩ := h
  refine ⟨hb, ?_, ?_, a4, hf⟩
  · rw [h1]; exact a2.kept g (Or.inr (blk_row a1 a2 (by decide)))
  · rw [h2]; exact a3.kept g (Or.inr (blk_row a1 a3 (by decide)))
theorem rdv_vs {w : World} {base p : Nat} {vs vp : Value} {fuse : Int} {s : St} (h : RDv w base p vs vp fuse s) : ∃ ao cap, vs = .slice ao s.secs.length cap := by
  obtain ⟨ao, cap, h1, _⟩ := Sl.of_owns h.2.1; exact ⟨ao, cap, h1⟩
theorem rdv_vp {w : World} {base p : Nat} {vs vp : Value} {fuse : Int} {s : St} (h : RDv w base p vs vp fuse s) : ∃ ao cap, vp = .slice ao s.pend.length cap := by
  obtain ⟨ao, cap, h1, _⟩ := Sl.of_owns h.2.2.1; exact ⟨ao, cap, h1⟩
theorem RDv.keep0 {w w' : World} {base p : Nat} {vs vp : Value} {fuse : Int} {s : St} (h : RDv w base p vs vp fuse s) (g : w.grownBy w' none) : RDv w' base p vs vp fuse s := by
  obtain ⟨h1, h2, h3, h4, h5⟩ := h
  exact ⟨h1.keep0 g, own_keep0' h2 g, own_keep0' h3 g, h4, h5⟩
/-- An operation of the document's disk. -/
def GoGot (w : World) (p : Nat) (vs vp : Value) (s : St) (e : Ending) (w' : World) : Prop :=
  e = .returned (.bool (!goesB s)) ∧ ∃ fuse', Blk w' p 56 (rkC vs vp fuse' (opS s true)) ∧ ((opS s true).armed = true → fuse' = (opS s true).left) ∧ w.grownBy w' (some p)
set_option maxRecDepth 100000 in
theorem goes_any (w : World) (p : Nat) (vs vp : Value) (fuse : Int) (s : St) (h : Blk w p 56 (rkC vs vp fuse s)) (ho : s.off = false) (ha : s.armed = true → 0 ≤ s.left ∧ s.left ≤ 9223372036854775807) (hfu : s.armed = true → fuse = s.left) (h3 : 0 ≤ s.ops ∧ s.ops ≤ 1000000) :
    Calls Tryd.prog 44 #[.pointer (some ⟨p, 0, none⟩)] w (GoGot w p vs vp s) := by
  obtain ⟨ss, pd, o, a, l, n⟩ := s
  have hw : IntKind.i64.wrap (n + 1) = n + 1 := IntWalk.i64_in _ (by simp only at h3; omega)
  have f2 := h.free 2
  have f3 := h.free 3
  have f4 := h.free 4
  have f5 := h.free 5
  obtain ⟨_, _, c2, c3, c4, c5⟩ := rk_cells h
  simp only at c2 c3 c4 c5 ha h3 hfu ho
  subst ho
  cases a with
  | false =>
    have hE : goesB ⟨ss, pd, false, false, l, n⟩ = false := rfl
    have hS : opS ⟨ss, pd, false, false, l, n⟩ true = ⟨ss, pd, false, false, l, n + 1⟩ := rfl
    have HES := Lib.hid (And.intro hE hS)
    clear hE hS
    go_enter Tryd.func44, Tryd.ntmps44
    go_wp2
    go_ret
    exact ⟨by rw [HES.out.1]; rfl, fuse, by rw [HES.out.2]; exact h.set 5 _, (fun e => by rw [HES.out.2] at e; cases e), gb_set _ _ _ _ _⟩
  | true =>
    obtain rfl := hfu rfl
    have h4 := ha rfl
    clear ha hfu
    by_cases hl : 0 < fuse
    · have hw2 : IntKind.i64.wrap (fuse - 1) = fuse - 1 := IntWalk.i64_in _ (by omega)
      have hz : (fuse == 0) = false := by simp; omega
      have hE : goesB ⟨ss, pd, false, true, fuse, n⟩ = false := by unfold goesB; simp [hl]
      have hS : opS ⟨ss, pd, false, true, fuse, n⟩ true = ⟨ss, pd, false, true, fuse - 1, n + 1⟩ := by unfold opS; simp [hl]
      have HES := Lib.hid (And.intro hE hS)
      clear hE hS
      have hn := (h.set 4 (.int .i64 (fuse - 1))).set 5 (.int .i64 (n + 1))
      go_enter Tryd.func44, Tryd.ntmps44
      go_wp2
      go_ret
      exact ⟨by rw [HES.out.1]; rfl, fuse - 1, by rw [HES.out.2]; exact hn, fun _ => by rw [HES.out.2], gb_trans (gb_set _ _ _ _ _) (gb_set _ _ _ _ _)⟩
    · obtain rfl : fuse = 0 := by omega
      have hE : goesB ⟨ss, pd, false, true, 0, n⟩ = true := by unfold goesB; simp
      have hS : opS ⟨ss, pd, false, true, 0, n⟩ true = ⟨ss, pd, true, false, 0, n⟩ := by unfold opS; simp
      have HES := Lib.hid (And.intro hE hS)
      clear hE hS
      have hn := (h.set 2 (.bool true)).set 3 (.bool false)
      go_enter Tryd.func44, Tryd.ntmps44
      go_wp2
      go_ret
      exact ⟨by rw [HES.out.1]; rfl, 0, by rw [HES.out.2]; exact hn, (fun e => by rw [HES.out.2] at e; cases e), gb_trans (gb_set _ _ _ _ _) (gb_set _ _ _ _ _)⟩
set_option maxRecDepth 100000 in
theorem rarm_any (w : World) (base : Nat) (F : Nat → Prop) (p : Nat) (s : St) (n : Int) (hP : RD w base F p s) :
    Calls Tryd.prog 24 #[.pointer (some ⟨p, 0, none⟩), .int .i64 n] w fun e w' => e = .returned (.tuple #[]) ∧ RD w' base F p (armS s n) ∧ Kp F w w' := by
  obtain ⟨vs, vp, fuse, hv, hf⟩ := hP
  have f3 := hv.1.free 3
  have f4 := hv.1.free 4
  obtain ⟨_, _, _, c3, c4, _⟩ := rk_cells hv.1
  have hn := (hv.1.set 3 (.bool (decide (0 ≤ n)))).set 4 (.int .i64 n)
  have HN := Lib.hid hn
  clear hn
  go_enter Tryd.func24, Tryd.ntmps24
  go_wp2
  go_end0
  have g := gb_trans (gb_set w p 3 none (.bool (decide (0 ≤ n)))) (gb_set _ p 4 none (.int .i64 n))
  refine ⟨rfl, ⟨vs, vp, n, rdv_turn hv rfl rfl HN.out (fun e => ?_) g, hf⟩, Kp.of g (fun k e => by cases e; exact hf _ (.inl rfl))⟩
  have h0 : 0 ≤ n := of_decide_eq_true e
  show n = max n 0
  omega
theorem opE_may1 {s : St} (h : s.off = false) : opE s true = if goesB s then 10 else 0 := by
  unfold opE goesB; simp [h]
/-- What stands behind so many writes. -/
theorem stand_take (l : List (Int × ByteArray)) (k : Nat) (x : Int × ByteArray) (h : l[k]? = some x) (a : ByteArray) (i : Int) : standF (l.take (k + 1)) a i = if x.1 = i then x.2 else standF (l.take k) a i := by
  rw [take_one l k x h, standF_snoc]
set_option maxRecDepth 100000 in
set_option maxHeartbeats 1000000 in
theorem rread_any (w : World) (base : Nat) (F : Nat → Prop) (p : Nat) (s : St) (i : Int) (N : Nat) (hP : RD w base F p s) (hok : s.Ok N) (hN : N ≤ 5000) :
    Calls Tryd.prog 17 #[.pointer (some ⟨p, 0, none⟩), .int .i64 i] w fun e w' => e = .returned (.tuple #[.string (readS s i), .int .i64 (opE s (hasF s i))]) ∧ RD w' base F p (opS s (hasF s i)) ∧ Kp F w w' := by
  obtain ⟨vs, vp, fuse, hv, hf⟩ := hP
  obtain ⟨ao, cap, rfl⟩ := rdv_vs hv
  obtain ⟨po, pcap, rfl⟩ := rdv_vp hv
  have ho3 : 0 ≤ s.ops ∧ s.ops ≤ 1000000 := ⟨hok.ops0, by have := hok.opsN; omega⟩
  have hpl := hok.plen
  have hsl := hok.len
  have HV := Lib.hid hv
  have HF := Lib.hid hf
  obtain ⟨c0, c1, c2, _, _, _⟩ := rk_cells hv.1
  have hE2 : (hasF s i = true → opE s (hasF s i) = opE s true ∧ opS s (hasF s i) = opS s true) := fun h => by rw [h]; exact ⟨rfl, rfl⟩
  cases ho : s.off with
  | true =>
    rw [ho] at c2
    obtain ⟨hE, hS⟩ := op_off ho (hasF s i)
    have hr : readS s i = noS := by unfold readS; rw [if_neg (by rw [hE]; omega)]
    rw [hE, hS, hr]
    clear hE hS hr hE2
    go_enter Tryd.func17, Tryd.ntmps17
    go_wp2
    go_ret2
    exact ⟨rfl, ⟨_, _, _, HV.out, HF.out⟩, Kp.refl _ _⟩
  | false =>
    rw [ho] at c2
    cases hh : hasF s i with
    | false =>
      obtain ⟨hE, hS⟩ := op_no ho
      have hr : readS s i = noS := by unfold readS; rw [hh, if_neg (by rw [hE]; omega)]
      rw [hE, hS, hr]
      clear hE hS hr hE2
      unfold hasF at hh
      rcases Int.lt_or_le i 0 with h0 | h0
      · have hd1 : decide (i < 0) = true := decide_eq_true h0
        clear hh
        go_enter Tryd.func17, Tryd.ntmps17
        go_wp2
        go_ret2
        exact ⟨rfl, ⟨_, _, _, HV.out, HF.out⟩, Kp.refl _ _⟩
      · have hd1 : decide (i < 0) = false := decide_eq_false (by omega)
        have h5 : ¬ i < (s.secs.length : Int) := by
          intro e
          rw [decide_eq_true h0, decide_eq_true e] at hh
          cases hh
        have hd2 : decide ((s.secs.length : Int) ≤ i) = true := decide_eq_true (by omega)
        clear hh
        go_enter Tryd.func17, Tryd.ntmps17
        go_wp2
        go_ret2
        exact ⟨rfl, ⟨_, _, _, HV.out, HF.out⟩, Kp.refl _ _⟩
    | true =>
      obtain ⟨m, rfl, hm⟩ := hasF_parts hh
      have hE := opE_may1 ho
      have hd1 : decide ((m : Int) < 0) = false := decide_eq_false (by omega)
      have hd2 : decide ((s.secs.length : Int) ≤ (m : Int)) = false := decide_eq_false (by omega)
      have gs : ∀ W, w = W → Calls Tryd.prog 44 #[.pointer (some ⟨p, 0, none⟩)] W (fun e w' => e = .returned (.bool (!goesB s)) ∧ w.grownBy w' (some p) ∧ ∃ fuse', RDv w' base p (.slice ao s.secs.length cap) (.slice po s.pend.length pcap) fuse' (opS s true)) := by
        rintro W rfl
        refine (goes_any w p _ _ fuse s HV.out.1 ho hok.arm HV.out.2.2.2.2 ho3).mono ?_
        rintro e w' ⟨rfl, f', hb, hf', g⟩
        exact ⟨rfl, g, f', rdv_turn HV.out (opS_secs s true).1 (opS_secs s true).2 hb hf' g⟩
      have HG := Lib.hid gs
      clear gs hE2
      cases hg : goesB s with
      | true =>
        rw [hg] at hE
        have hr : readS s (m : Int) = noS := by unfold readS; rw [hh, if_neg (by rw [hE]; decide)]
        rw [hr, hE]
        have HGB := Lib.hid hg
        clear hr hE hh hg
        go_enter Tryd.func17, Tryd.ntmps17
        go_wp2_with (go_at_call 44; (refine (HG.out _ rfl).mono ?_); rintro e w1 ⟨rfl, g1, f1, hv1⟩; rw [HGB.out]; have HV1 := Lib.hid hv1; clear hv1)
        go_ret2
        exact ⟨rfl, ⟨_, _, _, HV1.out, HF.out⟩, Kp.of g1 (fun k e => by cases e; exact HF.out _ (.inl rfl))⟩
      | false =>
        rw [hg] at hE
        have hr : readS s (m : Int) = standF s.pend (s.secs.getD m noS) m := by unfold readS; rw [hh, if_pos (by rw [hE]; rfl)]; rfl
        rw [hr, hE]
        have HGB := Lib.hid hg
        obtain ⟨S0, hS0⟩ : ∃ S0, s.secs.getD m noS = S0 := ⟨_, rfl⟩
        have hz : ∀ W f, RDv W base p (.slice ao s.secs.length cap) (.slice po s.pend.length pcap) f (opS s true) → ∃ g, ao = some ⟨g, 0, none⟩ ∧ W.cell? ⟨g, m, none⟩ = some (.string S0) := by
          intro W f hW
          obtain ⟨_, hrow, _⟩ := hW
          rw [(opS_secs s true).1] at hrow
          obtain ⟨g, rfl⟩ : ∃ g, ao = some ⟨g, 0, none⟩ := by
            rcases hrow.2 with ⟨_, h0⟩ | ⟨g, _, _, he, _⟩
            · omega
            · injection he with h3 _ _; exact ⟨g, h3⟩
          exact ⟨g, rfl, by rw [hrow.cellAt m (by omega), ← hS0]; exact strs_at (by omega)⟩
        have hy : ∀ W f k x, RDv W base p (.slice ao s.secs.length cap) (.slice po s.pend.length pcap) f (opS s true) → s.pend[k]? = some x → ∃ g, po = some ⟨g, 0, none⟩ ∧ W.cell? ⟨g, k * 2, none⟩ = some (.int .i64 x.1) ∧ W.cell? ⟨g, k * 2 + 1, none⟩ = some (.string x.2) := by
          intro W f k x hW hD
          obtain ⟨_, _, hrow, _⟩ := hW
          rw [(opS_secs s true).2] at hrow
          have hc := (List.getElem?_eq_some_iff.1 hD).1
          obtain ⟨g, rfl⟩ : ∃ g, po = some ⟨g, 0, none⟩ := by
            rcases hrow.2 with ⟨_, h0⟩ | ⟨g, _, _, he, _⟩
            · omega
            · injection he with h3 _ _; exact ⟨g, h3⟩
          exact ⟨g, rfl, by rw [hrow.cellAt (k * 2) (by omega)]; exact (wrC_at s.pend k _ hD).1, by rw [hrow.cellAt (k * 2 + 1) (by omega)]; exact (wrC_at s.pend k _ hD).2⟩
        have HZ := Lib.hid hz
        have HY := Lib.hid hy
        rw [hS0]
        clear hr hE hh hg hz hy hS0
        go_enter Tryd.func17, Tryd.ntmps17
        go_wp2_with (go_at_call 44; (refine (HG.out _ rfl).mono ?_); rintro e w1 ⟨rfl, g1, f1, hv1⟩; rw [HGB.out]; obtain ⟨g, rfl, z⟩ := HZ.out w1 f1 hv1; obtain ⟨d0, d1, _, _, _, _⟩ := rk_cells hv1.1; have HV1 := Lib.hid hv1; clear hv1)
        clear c0 c1 c2 z
        go_loop [6, 7] (fun v6 v7 => ∃ k : Nat, k ≤ s.pend.length ∧ v7 = .int .i64 k ∧ v6 = .string (standF (s.pend.take k) S0 m)) (fun _ v => s.pend.length - (intOf v).toNat)
        case atStart => exact ⟨0, by omega, rfl, rfl⟩
        case round =>
          obtain ⟨k, hk, rfl, rfl⟩ := hrel
          by_cases hlt : k < s.pend.length
          · obtain ⟨⟨j, d⟩, hx⟩ : ∃ z, s.pend[k]? = some z := ⟨_, List.getElem?_eq_getElem hlt⟩
            have hst := stand_take s.pend k _ hx S0 (m : Int)
            obtain ⟨gp, rfl, r0, r1⟩ := HY.out w1 f1 k _ HV1.out hx
            simp only at r0 r1 hst
            have hk0 : (0 : Int) ≤ (k : Int) := by omega
            have hk1 : (k : Int) < (s.pend.length : Int) := by omega
            by_cases hj : j = (m : Int)
            · subst hj
              rw [if_pos rfl] at hst
              have HST := Lib.hid hst
              clear hst hx
              generalize standF (s.pend.take k) S0 m = Q
              go_wp2
              go_round
              case rel => exact ⟨k + 1, by omega, by go_num, by rw [HST.out]⟩
              case measure => simp [intOf]; omega
            · rw [if_neg hj] at hst
              have hjb : (j == (m : Int)) = false := beq_eq_false_iff_ne.2 hj
              have HST := Lib.hid hst
              clear hst hx hj
              generalize standF (s.pend.take k) S0 m = Q at HST ⊢
              go_wp2
              go_round
              case rel => exact ⟨k + 1, by omega, by go_num, by rw [HST.out]⟩
              case measure => simp [intOf]; omega
          · obtain rfl : k = s.pend.length := by omega
            rw [List.take_of_length_le (Nat.le_refl _)]
            go_wp2
            go_ret2
            exact ⟨rfl, ⟨_, _, _, HV1.out, HF.out⟩, Kp.of g1 (fun k e => by cases e; exact HF.out _ (.inl rfl))⟩
end Go.Proofs.YtcoegaipojnndaaDoor
