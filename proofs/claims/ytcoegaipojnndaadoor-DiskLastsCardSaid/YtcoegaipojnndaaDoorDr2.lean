/-
  The document's own disk (foyerref05): Write, Barrier, over this seat's translation; conditions: the disk lies as Dk0 tells, its counts are small.
-/
import Derived.Test.YtcoegaipojnndaaDoorDr1
namespace Go.Proofs.YtcoegaipojnndaaDoor
open Go.RowKit Go.Maps

theorem rdv_lay {w : World} {base p g n m c : Nat} {vp : Value} {fuse : Int} {s : St} (h : RDv w base p (.slice (some ⟨g, 0, none⟩) n c) vp fuse s) (hn : n = s.secs.length) (d : ByteArray) (hm : m < n) :
    RDv (w.setCell ⟨g, m, none⟩ (.string d)) base p (.slice (some ⟨g, 0, none⟩) n c) vp fuse { s with secs := s.secs.set m d } := by
  subst hn
  obtain ⟨a1, a2, a3, a4, a5⟩ := h
  have gs := gb_set w g m none (.string d)
  obtain ⟨r, _⟩ := a2.stored m (.string d)
  refine ⟨a1.keep gs ?_, ?_, a3.kept gs (Or.inr ?_), a4, a5⟩
  · exact (blk_row a1 a2 (by decide)).symm
  · show (w.setCell ⟨g, m, none⟩ (.string d)).ownsRow base _ 1 _ (s.secs.set m d).length (strsC (s.secs.set m d))
    have e : strsC (s.secs.set m d) = (strsC s.secs).set m (.string d) := by unfold strsC; rw [List.map_set]
    rw [e, List.length_set]; exact r
  · exact fun e => row_row a3 a2 (by decide) g e rfl
theorem may_no {s : St} {i : Int} {d : ByteArray} (h : mayW s i d = false) (h0 : 0 ≤ i) (h1 : i < (s.secs.length : Int)) : d.size ≠ 256 := by
  intro e
  unfold mayW hasF at h
  rw [decide_eq_true h0, decide_eq_true h1, decide_eq_true e] at h
  cases h
set_option maxRecDepth 100000 in
set_option maxHeartbeats 1000000 in
theorem rwrite_any (w : World) (base : Nat) (F : Nat → Prop) (p : Nat) (s : St) (i : Int) (d : ByteArray) (N : Nat) (hP : RD w base F p s) (hok : s.Ok N) (hN : N ≤ 5000) (hb0 : base ≤ w.heap.size) :
    Calls Tryd.prog 20 #[.pointer (some ⟨p, 0, none⟩), .int .i64 i, .string d] w fun e w' => e = .returned (.int .i64 (opE s (mayW s i d))) ∧ RD w' base (Nw F w w') p (writeT s i d) ∧ Kp F w w' := by
  obtain ⟨vs, vp, fuse, hv, hf⟩ := hP
  obtain ⟨ao, cap, rfl⟩ := rdv_vs hv
  obtain ⟨po, pcap, rfl⟩ := rdv_vp hv
  obtain ⟨i0, hi0, hz0, hz1, hz2⟩ := info_parts Tryd.infoWr
  have ho3 : 0 ≤ s.ops ∧ s.ops ≤ 1000000 := ⟨hok.ops0, by have := hok.opsN; omega⟩
  have hpl := hok.plen
  have hsl := hok.len
  have HV := Lib.hid hv
  have HF := Lib.hid hf
  obtain ⟨c0, c1, c2, _, _, _⟩ := rk_cells hv.1
  cases ho : s.off with
  | true =>
    rw [ho] at c2
    obtain ⟨hE, hS⟩ := op_off ho (mayW s i d)
    have hr : writeT s i d = s := by unfold writeT; rw [if_neg (by rw [hE]; omega), hS]
    rw [hE, hr]
    clear hE hS hr
    go_enter Tryd.func20, Tryd.ntmps20
    go_wp2
    go_ret
    exact ⟨rfl, ⟨_, _, _, HV.out, fun k hk => .inl (HF.out k hk)⟩, Kp.refl _ _⟩
  | false =>
    rw [ho] at c2
    cases hh : mayW s i d with
    | false =>
      obtain ⟨hE, hS⟩ := op_no ho
      have hr : writeT s i d = s := by unfold writeT; rw [hh, if_neg (by rw [hE]; omega), hS]
      rw [hE, hr]
      clear hE hS hr
      rcases Int.lt_or_le i 0 with h0 | h0
      · have hd1 : decide (i < 0) = true := decide_eq_true h0
        clear hh
        go_enter Tryd.func20, Tryd.ntmps20
        go_wp2
        go_ret
        exact ⟨rfl, ⟨_, _, _, HV.out, fun k hk => .inl (HF.out k hk)⟩, Kp.refl _ _⟩
      · have hd1 : decide (i < 0) = false := decide_eq_false (by omega)
        rcases Int.lt_or_le i (s.secs.length : Int) with h5 | h5
        · have hd2 : decide ((s.secs.length : Int) ≤ i) = false := decide_eq_false (by omega)
          have hds := may_no hh h0 h5
          have hd3 : ((d.size : Int) != 256) = true := by simp; omega
          clear hh hds
          go_enter Tryd.func20, Tryd.ntmps20
          go_wp2
          go_ret
          exact ⟨rfl, ⟨_, _, _, HV.out, fun k hk => .inl (HF.out k hk)⟩, Kp.refl _ _⟩
        · have hd2 : decide ((s.secs.length : Int) ≤ i) = true := decide_eq_true (by omega)
          clear hh
          go_enter Tryd.func20, Tryd.ntmps20
          go_wp2
          go_ret
          exact ⟨rfl, ⟨_, _, _, HV.out, fun k hk => .inl (HF.out k hk)⟩, Kp.refl _ _⟩
    | true =>
      obtain ⟨m, rfl, hm, hds⟩ := mayW_parts hh
      have hE := opE_may1 ho
      have hd1 : decide ((m : Int) < 0) = false := decide_eq_false (by omega)
      have hd2 : decide ((s.secs.length : Int) ≤ (m : Int)) = false := decide_eq_false (by omega)
      have hd3 : ((d.size : Int) != 256) = false := by rw [hds]; rfl
      have gs : ∀ W, w = W → Calls Tryd.prog 44 #[.pointer (some ⟨p, 0, none⟩)] W (fun e w' => e = .returned (.bool (!goesB s)) ∧ w.grownBy w' (some p) ∧ ∃ fuse', RDv w' base p (.slice ao s.secs.length cap) (.slice po s.pend.length pcap) fuse' (opS s true)) := by
        rintro W rfl
        refine (goes_any w p _ _ fuse s HV.out.1 ho hok.arm HV.out.2.2.2.2 ho3).mono ?_
        rintro e w' ⟨rfl, f', hb, hf', g⟩
        exact ⟨rfl, g, f', rdv_turn HV.out (opS_secs s true).1 (opS_secs s true).2 hb hf' g⟩
      have HG := Lib.hid gs
      clear gs
      cases hg : goesB s with
      | true =>
        rw [hg] at hE
        have hr : writeT s (m : Int) d = opS s true := by unfold writeT; rw [hh, if_neg (by rw [hE]; decide)]
        rw [hr, hE]
        have HGB := Lib.hid hg
        clear hr hE hh hg hds
        go_enter Tryd.func20, Tryd.ntmps20
        go_wp2_with (go_at_call 44; (refine (HG.out _ rfl).mono ?_); rintro e w1 ⟨rfl, g1, f1, hv1⟩; rw [HGB.out]; have HV1 := Lib.hid hv1; clear hv1)
        go_ret
        exact ⟨rfl, ⟨_, _, _, HV1.out, fun k hk => .inl (HF.out k hk)⟩, Kp.of g1 (fun k e => by cases e; exact HF.out _ (.inl rfl))⟩
      | false =>
        rw [hg] at hE
        have hr : writeT s (m : Int) d = { opS s true with pend := s.pend ++ [((m : Int), d)] } := by unfold writeT; rw [hh, if_pos (by rw [hE]; rfl)]
        rw [hr, hE]
        have HGB := Lib.hid hg
        have HS := Lib.hid (opS_secs s true)
        clear hr hE hh hg hds
        generalize opS s true = s1 at HS HG ⊢
        have fin : ∀ w3 f, w.grownBy w3 (some p) → RDv w3 base p (.slice ao s.secs.length cap) (.slice po s.pend.length pcap) f s1 → ∃ w5 o5 c5,
            (Builtin.append_ #[36, 36] 36 #[.slice po s.pend.length pcap, .slice (some ⟨w3.heap.size, 0, none⟩) 1 1]).run Tryd.prog (w3.alloc (.cells #[.int .i64 (m : Nat), .string d] 35)) = .ok (.slice o5 (s.pend.length + 1) c5) w5 ∧
            (w5.cell? ⟨p, 1, none⟩ = some (.slice po s.pend.length pcap) ∧ w5.frozen? ⟨p, 1, none⟩ = false) ∧
            RD (w5.setCell ⟨p, 1, none⟩ (.slice o5 (s.pend.length + 1) c5)) base (Nw F w (w5.setCell ⟨p, 1, none⟩ (.slice o5 (s.pend.length + 1) c5))) p { s1 with pend := s.pend ++ [((m : Int), d)] } ∧ Kp F w (w5.setCell ⟨p, 1, none⟩ (.slice o5 (s.pend.length + 1) c5)) := by
          intro w3 f g3 hP3
          obtain ⟨a1, a2, a3, a4, a5⟩ := hP3
          rw [HS.out.2] at a3
          have ga := gb_alloc w3 (.cells #[.int .i64 (m : Nat), .string d] 35) none
          have hsz := g3.size
          obtain ⟨v5, w5, hap, q5, g5, hnear⟩ := near_append (P := Tryd.prog) (w3.alloc (.cells #[.int .i64 (m : Nat), .string d] 35)) base 36 36 35 i0 (.agg #[.int .i64 0, .string ⟨#[]⟩]) 2 24 Tryd.underlying36 hi0 hz0 hz1 hz2 rfl (by decide) _ s.pend.length _ (a3.alloc _) ⟨w3.heap.size, 0, none⟩ 1 1 [.int .i64 (m : Nat), .string d] rfl (cells2_new _ _ _ _) (one_wr _ _) (by unfold maxLen; omega) (by omega) (by simp; omega)
          obtain ⟨o5, c5, rfl, _⟩ := Sl.of_owns q5
          have hne : (Value.slice po s.pend.length pcap).ownBlock ≠ some p := blk_row a1 a3 (by decide)
          have b5 := (a1.keep0 ga).keep g5 hne.symm
          have r5 := (own_keep0' a2 ga).kept g5 (by
            cases hx : (Value.slice ao s.secs.length cap).ownBlock with
            | none => exact .inl rfl
            | some k => exact .inr (fun e => row_row a2 a3 (by decide) k hx e.symm))
          have gs := gb_set w5 p 1 none (.slice o5 (s.pend.length + 1) c5)
          refine ⟨w5, o5, c5, hap, ⟨b5.cell 1 rfl, b5.free 1⟩, ⟨_, .slice o5 (s.pend.length + 1) c5, f, ⟨b5.set 1 _, r5.kept gs (Or.inr (blk_row b5 r5 (by decide))), ?_, a4, a5⟩, ?_⟩, ?_⟩
          · show (w5.setCell ⟨p, 1, none⟩ _).ownsRow base _ 2 _ (s.pend ++ [((m : Int), d)]).length (wrC (s.pend ++ [((m : Int), d)]))
            rw [wrC_snoc, List.length_append]
            exact q5.kept gs (Or.inr (blk_row b5 q5 (by decide)))
          · intro k hk
            rcases hk with rfl | hk | hk
            · exact .inl (HF.out _ (.inl rfl))
            · exact .inl (HF.out _ (.inr (.inl hk)))
            · rcases hnear k hk with h1 | h1
              · exact .inl (HF.out _ (.inr (.inr h1)))
              · refine .inr ⟨?_, ?_⟩
                · simp at h1; omega
                · have := (q5.lt k hk).2
                  have := gs.size
                  omega
          · have k1 : Kp F w w3 := Kp.of g3 (fun k e => by cases e; exact HF.out _ (.inl rfl))
            have k3 := (k1.step0 ga).step g5 (fun k e => .inl (HF.out _ (.inr (.inr e))))
            exact k3.step gs (fun k e => by cases e; exact .inl (HF.out _ (.inl rfl)))
        have HFin := Lib.hid fin
        clear fin
        go_enter Tryd.func20, Tryd.ntmps20
        go_wp2_with (first
          | (go_at_call 44; (refine (HG.out _ rfl).mono ?_); rintro e w3 ⟨rfl, g3, f3, hP3⟩; rw [HGB.out]; obtain ⟨d0, d1, _, _, _, _⟩ := rk_cells hP3.1; obtain ⟨w5, o5, c5, hap, ⟨e1, e2⟩, hfin, hkp⟩ := HFin.out w3 f3 g3 hP3; clear hP3; have HX := Lib.hid (And.intro hfin hkp); clear hfin hkp; have HA := Lib.hid hap; clear hap)
          | (at_builtin; go_must (refine list_append_run rfl _ _ 36 rfl _ _ rfl rfl _ _ HA.out rfl ?_)))
        go_ret
        exact ⟨rfl, HX.out.1, HX.out.2⟩
end Go.Proofs.YtcoegaipojnndaaDoor
