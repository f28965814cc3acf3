/-
  The document's own disk (foyerref05): Barrier, over this seat's translation; conditions: the disk lies as Dk0 tells, its counts are small.
-/
import Derived.Test.YtcoegaipojnndaaDoorDr2
namespace Go.Proofs.YtcoegaipojnndaaDoor
open Go.RowKit Go.Maps

set_option maxRecDepth 100000 in
set_option maxHeartbeats 2000000 in
theorem rbarrier_any (w : World) (base : Nat) (F : Nat → Prop) (p : Nat) (s : St) (N : Nat) (hP : RD w base F p s) (hok : s.Ok N) (hN : N ≤ 5000) :
    Calls Tryd.prog 22 #[.pointer (some ⟨p, 0, none⟩)] w fun e w' => e = .returned (.int .i64 (opE s true)) ∧ RD w' base F p (barS s) ∧ Kp F w w' := by
  obtain ⟨vs, vp, fuse, hv, hf⟩ := hP
  obtain ⟨ao, cap, rfl⟩ := rdv_vs hv
  obtain ⟨po, pcap, rfl⟩ := rdv_vp hv
  have ho3 : 0 ≤ s.ops ∧ s.ops ≤ 1000000 := ⟨hok.ops0, by have := hok.opsN; omega⟩
  have hpl := hok.plen
  have hsl := hok.len
  have HV := Lib.hid hv
  have HF := Lib.hid hf
  obtain ⟨c0, c1, c2, _, _, _⟩ := rk_cells hv.1
  cases ho : s.off with
  | true =>
    rw [ho] at c2
    obtain ⟨hE, hS⟩ := op_off ho true
    have hr : barS s = s := by unfold barS; rw [if_neg (by rw [hE]; omega), hS]
    rw [hE, hr]
    clear hE hS hr
    go_enter Tryd.func22, Tryd.ntmps22
    go_wp2
    go_ret
    exact ⟨rfl, ⟨_, _, _, HV.out, HF.out⟩, Kp.refl _ _⟩
  | false =>
    rw [ho] at c2
    have hE := opE_may1 ho
    have gs : ∀ W, w = W → Calls Tryd.prog 44 #[.pointer (some ⟨p, 0, none⟩)] W (fun e w' => e = .returned (.bool (!goesB s)) ∧ w.grownBy w' (some p) ∧ ∃ fuse', RDv w' base p (.slice ao s.secs.length cap) (.slice po s.pend.length pcap) fuse' (opS s true)) := by
      rintro W rfl
      refine (goes_any w p _ _ fuse s HV.out.1 ho hok.arm HV.out.2.2.2.2 ho3).mono ?_
      rintro e w' ⟨rfl, f', hb, hf', g⟩
      exact ⟨rfl, g, f', rdv_turn HV.out (opS_secs s true).1 (opS_secs s true).2 hb hf' g⟩
    have HG := Lib.hid gs
    clear gs
    cases hg : goesB s with
    | true =>
      rw [hg] at hE
      have hr : barS s = opS s true := by unfold barS; rw [if_neg (by rw [hE]; decide)]
      rw [hr, hE]
      have HGB := Lib.hid hg
      clear hr hE hg
      go_enter Tryd.func22, Tryd.ntmps22
      go_wp2_with (go_at_call 44; (refine (HG.out _ rfl).mono ?_); rintro e w1 ⟨rfl, g1, f1, hv1⟩; rw [HGB.out]; have HV1 := Lib.hid hv1; clear hv1)
      go_ret
      exact ⟨rfl, ⟨_, _, _, HV1.out, HF.out⟩, Kp.of g1 (fun k e => by cases e; exact HF.out _ (.inl rfl))⟩
    | false =>
      rw [hg] at hE
      have hbt : barS s = { opS s true with secs := laidF s.pend s.secs, pend := [] } := by unfold barS; rw [if_pos (by rw [hE]; rfl)]
      rw [hbt, hE]
      have HGB := Lib.hid hg
      have HS := Lib.hid (opS_secs s true)
      have heach := hok.each
      clear hbt hE hg
      generalize opS s true = s1 at HS HG ⊢
      go_enter Tryd.func22, Tryd.ntmps22
      go_wp2_with (go_at_call 44; (refine (HG.out _ rfl).mono ?_); rintro e w3 ⟨rfl, g3, f3, hP3⟩; rw [HGB.out]; have HP3 := Lib.hid hP3; clear hP3)
      clear c0 c1 c2
      have hkp := Kp.of g3 (F := F) (fun k e => by cases e; exact HF.out _ (.inl rfl))
      go_loopw [3] (fun v wr => ∃ k : Nat, k ≤ s.pend.length ∧ v = .int .i64 k ∧ RDv wr base p (.slice ao s.secs.length cap) (.slice po s.pend.length pcap) f3 { s1 with secs := laidF (s.pend.take k) s.secs } ∧ Kp F w wr) (fun v _ => s.pend.length - (intOf v).toNat)
      case atStart =>
        refine ⟨0, by omega, rfl, ?_, hkp⟩
        have : ({ s1 with secs := laidF (s.pend.take 0) s.secs } : St) = s1 := by
          show ({ s1 with secs := s.secs } : St) = s1
          rw [← HS.out.1]
        rw [this]; exact HP3.out
      case round =>
        clear hkp HP3 g3
        obtain ⟨k, hk, rfl, hP, hkp⟩ := hrel
        obtain ⟨d0, d1, _, _, _, _⟩ := rk_cells hP.1
        by_cases hlt : k < s.pend.length
        · obtain ⟨⟨i, d⟩, hx⟩ : ∃ z, s.pend[k]? = some z := ⟨_, List.getElem?_eq_getElem hlt⟩
          obtain ⟨m, hm, hml, hd⟩ := heach _ (List.mem_of_getElem? hx)
          have hm' : i = (m : Int) := hm
          subst hm'
          have hrow := hP.2.2.1
          have hrs := hP.2.1
          have hpe : ({ s1 with secs := laidF (s.pend.take k) s.secs } : St).pend = s.pend := HS.out.2
          rw [hpe] at hrow
          obtain ⟨gp, rfl⟩ : ∃ g, po = some ⟨g, 0, none⟩ := by
            rcases hrow.2 with ⟨_, h0⟩ | ⟨g, _, _, he, _⟩
            · omega
            · injection he with h3 _ _; exact ⟨g, h3⟩
          have hll : (laidF (s.pend.take k) s.secs).length = s.secs.length := laidF_length _ _
          have hrs2 : wr.ownsRow base 9 1 (.slice ao s.secs.length cap) s.secs.length (strsC (laidF (s.pend.take k) s.secs)) := by
            have := hrs; rw [show ({ s1 with secs := laidF (s.pend.take k) s.secs } : St).secs.length = s.secs.length from hll] at this; exact this
          obtain ⟨gs, rfl⟩ : ∃ g, ao = some ⟨g, 0, none⟩ := by
            rcases hrs2.2 with ⟨_, h0⟩ | ⟨g, _, _, he, _⟩
            · omega
            · injection he with h3 _ _; exact ⟨g, h3⟩
          have r0 : wr.cell? ⟨gp, k * 2, none⟩ = some (.int .i64 (m : Nat)) := by rw [hrow.cellAt (k * 2) (by omega)]; exact (wrC_at s.pend k _ hx).1
          have r1 : wr.cell? ⟨gp, k * 2 + 1, none⟩ = some (.string d) := by rw [hrow.cellAt (k * 2 + 1) (by omega)]; exact (wrC_at s.pend k _ hx).2
          have s0 : wr.cell? ⟨gs, m, none⟩ = some (.string ((laidF (s.pend.take k) s.secs).getD m noS)) := by
            rw [hrs2.cellAt m (by omega)]; exact strs_at (by omega)
          have s1' := hrs2.frozenAt m
          have hnx := take_one s.pend k _ hx
          have hm0 : (0 : Int) ≤ (m : Int) := by omega
          have hm1 : (m : Int) < (s.secs.length : Int) := by omega
          have hk0 : (0 : Int) ≤ (k : Int) := by omega
          have hk1 : (k : Int) < (s.pend.length : Int) := by omega
          have hE : laidF (s.pend.take (k + 1)) s.secs = (laidF (s.pend.take k) s.secs).set m d := by rw [hnx, laidF_snoc]; rfl
          have hnew : RDv (wr.drew.setCell ⟨gs, m, none⟩ (.string d)) base p (.slice (some ⟨gs, 0, none⟩) s.secs.length cap) (.slice (some ⟨gp, 0, none⟩) s.pend.length pcap) f3 { s1 with secs := laidF (s.pend.take (k + 1)) s.secs } := by
            rw [hE]
            exact rdv_lay (s := { s1 with secs := laidF (s.pend.take k) s.secs }) (hP.keep0 (gb_drew _ _)) hll.symm d (by omega)
          have hkn : Kp F w (wr.drew.setCell ⟨gs, m, none⟩ (.string d)) :=
            (hkp.step0 (gb_drew _ _)).step (gb_set _ _ _ _ _) (fun k e => by cases e; exact .inl (HF.out _ (.inr (.inl rfl))))
          have HN := Lib.hid (And.intro hnew hkn)
          obtain ⟨L0, hL0⟩ : ∃ L0, (laidF (s.pend.take k) s.secs).getD m noS = L0 := ⟨_, rfl⟩
          rw [hL0] at s0
          clear hnew hkn hE hnx hP hkp hrow hrs hpe hll hrs2 heach hx hm hL0
          go_wp2
          go_region
          all_goals go_wp2
          all_goals
            go_roundw
            case rel => exact ⟨k + 1, by omega, by go_num, HN.out.1, HN.out.2⟩
            case measure => simp [intOf]; omega
        · obtain rfl : k = s.pend.length := by omega
          rw [List.take_of_length_le (Nat.le_refl _)] at hP
          have hlt' : ¬ ((s.pend.length : Int) < (s.pend.length : Int)) := by omega
          have f1 := hP.1.free 1
          have gw := gb_set wr p 1 none (.slice none 0 0)
          have hfin : RDv (wr.setCell ⟨p, 1, none⟩ (.slice none 0 0)) base p (.slice ao s.secs.length cap) (.slice none 0 0) f3 { s1 with secs := laidF s.pend s.secs, pend := [] } := by
            obtain ⟨b1, b2, b3, b4, b5⟩ := hP
            exact ⟨b1.set 1 _, b2.kept gw (Or.inr (blk_row b1 b2 (by decide))), World.ownsRow_nil _ _ _ _, b4, b5⟩
          have HFi := Lib.hid hfin
          clear hP hfin
          go_wp2
          go_ret
          exact ⟨rfl, ⟨_, _, _, HFi.out, fun k hk => HF.out k (by
            rcases hk with h | h | h
            · exact .inl h
            · exact .inr (.inl h)
            · cases h)⟩, hkp.step gw (fun k e => by cases e; exact .inl (HF.out _ (.inl rfl)))⟩
end Go.Proofs.YtcoegaipojnndaaDoor
