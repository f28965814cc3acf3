/-
  The disk's Barrier and Boot, over this seat's translation; conditions: the disk lies as Dk0 tells, its counts are small; for Boot the table of masks as the program lays it.
-/
import Derived.Test.YtcoegaipojnndaaDoorDk3
namespace Go.Proofs.YtcoegaipojnndaaDoor
open Go.RowKit Go.Maps

theorem take_one {α : Type} (l : List α) (k : Nat) (x : α) (h : l[k]? = some x) : l.take (k + 1) = l.take k ++ [x] := by
  rw [List.take_add_one, h]; rfl
/-- A sector is laid. -/
theorem pdv_lay {w : World} {base p g n m c : Nat} {vp : Value} {bm : Nat} {D : DataW Unit} {s : St} (h : PDv w base p (.slice (some ⟨g, 0, none⟩) n c) vp bm D s) (hn : n = s.secs.length) (d : ByteArray) (hm : m < n) :
    PDv (w.setCell ⟨g, m, none⟩ (.string d)) base p (.slice (some ⟨g, 0, none⟩) n c) vp bm D { s with secs := s.secs.set m d } := by
  subst hn
  obtain ⟨a1, a2, a3, a4, a5, a6, a7⟩ := h
  have gs := gb_set w g m none (.string d)
  obtain ⟨r, _⟩ := a2.stored m (.string d)
  refine ⟨a1.keep gs ?_, ?_, a3.kept gs (Or.inr ?_), a4.kept gs ?_, a5, a6, a7⟩
  · exact (blk_row a1 a2 (by decide)).symm
  · show (w.setCell ⟨g, m, none⟩ (.string d)).ownsRow base _ 1 _ (s.secs.set m d).length (strsC (s.secs.set m d))
    have e : strsC (s.secs.set m d) = (strsC s.secs).set m (.string d) := by unfold strsC; rw [List.map_set]
    rw [e, List.length_set]; exact r
  · exact fun e => row_row a3 a2 (by decide) g e rfl
  · exact (map_row a4 a2).symm
set_option maxRecDepth 100000 in
set_option maxHeartbeats 1000000 in
theorem dbarrier_any (w : World) (base : Nat) (F : Nat → Prop) (p : Nat) (s : St) (N : Nat) (hP : PD w base F p s) (hok : s.Ok N) (hN : N ≤ 5000) :
    Calls Tryd.prog 21 #[.pointer (some ⟨p, 0, none⟩)] w fun e w' => e = .returned (.int .i64 (opE s true)) ∧ PD w' base F p (barS s) ∧ Kp F w w' := by
  obtain ⟨vs, vp, bm, D, hv, hf⟩ := hP
  obtain ⟨ao, cap, rfl⟩ := pdv_vs hv
  obtain ⟨po, pcap, rfl⟩ := pdv_vp hv
  have hl2 : s.armed = true → s.left ≤ 9223372036854775807 := fun e => (hok.arm e).2
  have ho3 : 0 ≤ s.ops ∧ s.ops ≤ 1000000 := ⟨hok.ops0, by have := hok.opsN; omega⟩
  have hpl := hok.plen
  have HV := Lib.hid hv
  have HF := Lib.hid hf
  obtain ⟨E, hE⟩ : ∃ E, opE s true = E := ⟨_, rfl⟩
  have HE := Lib.hid hE
  rw [hE]
  obtain ⟨hs1, hs2⟩ := opS_secs s true
  have HS := Lib.hid (And.intro hs1 hs2)
  clear hf hs1 hs2
  have opn : Calls Tryd.prog 42 #[.pointer (some ⟨p, 0, none⟩), .slice none 0 0] w (fun e w3 => e = .returned (.int .i64 E) ∧ w.grownBy w3 (some p) ∧ PDv w3 base p (.slice ao s.secs.length cap) (.slice po s.pend.length pcap) bm D (opS s true)) := by
    refine (operate_none _ p _ _ bm s HV.out.1 hl2 ho3).mono ?_
    rintro e w3 ⟨rfl, hb, g3⟩
    exact ⟨by rw [HE.out], g3, pdv_turn HV.out HS.out.1 HS.out.2 hb g3⟩
  have HO := Lib.hid opn
  clear opn hv
  by_cases h0 : E = 0
  · subst h0
    have hbt : barS s = { opS s true with secs := laidF s.pend s.secs, pend := [] } := by unfold barS; rw [if_pos hE]
    rw [hbt]
    clear hE hbt
    have heach := hok.each
    generalize opS s true = s1 at HS HO ⊢
    go_enter Tryd.func21, Tryd.ntmps21
    go_wp2_with (go_at_call 42; (refine (HO.out).mono ?_); rintro e w3 ⟨rfl, g3, hP3⟩; obtain ⟨c0, c1, c2, _, _, _, _⟩ := dk_cells hP3.1; have HP3 := Lib.hid hP3; clear hP3)
    clear c0 c1 c2
    have hkp := Kp.of g3 (F := F) (fun k e => by cases e; exact HF.out _ (.inl rfl))
    go_loopw [5, 16] (fun _ v wr => ∃ k : Nat, k ≤ s.pend.length ∧ v = .int .i64 k ∧ PDv wr base p (.slice ao s.secs.length cap) (.slice po s.pend.length pcap) bm D { s1 with secs := laidF (s.pend.take k) s.secs } ∧ Kp F w wr) (fun _ v _ => s.pend.length - (intOf v).toNat)
    case atStart =>
      refine ⟨0, by omega, rfl, ?_, hkp⟩
      have : ({ s1 with secs := laidF (s.pend.take 0) s.secs } : St) = s1 := by
        show ({ s1 with secs := s.secs } : St) = s1
        rw [← HS.out.1]
      rw [this]; exact HP3.out
    case round =>
      clear hkp HP3 g3
      obtain ⟨k, hk, rfl, hP, hkp⟩ := hrel
      by_cases hlt : k < s.pend.length
      · obtain ⟨⟨i, d⟩, hx⟩ : ∃ z, s.pend[k]? = some z := ⟨_, List.getElem?_eq_getElem hlt⟩
        obtain ⟨m, hm, hml, hd⟩ := heach _ (List.mem_of_getElem? hx)
        have hm' : i = (m : Int) := hm
        subst hm'
        have hrow := hP.2.2.1
        have hrs := hP.2.1
        have hpe : ({ s1 with secs := laidF (s.pend.take k) s.secs } : St).pend = s.pend := HS.out.2
        rw [hpe] at hrow
        obtain ⟨gp, rfl⟩ : ∃ g, po = some ⟨g, 0, none⟩ := by
          rcases hrow.2 with ⟨_, h0⟩ | ⟨g, _, _, he, _⟩
          · omega
          · injection he with h3 _ _; exact ⟨g, h3⟩
        have hll : (laidF (s.pend.take k) s.secs).length = s.secs.length := laidF_length _ _
        have hrs2 : wr.ownsRow base 9 1 (.slice ao s.secs.length cap) s.secs.length (strsC (laidF (s.pend.take k) s.secs)) := by
          have := hrs; rw [show ({ s1 with secs := laidF (s.pend.take k) s.secs } : St).secs.length = s.secs.length from hll] at this; exact this
        obtain ⟨gs, rfl⟩ : ∃ g, ao = some ⟨g, 0, none⟩ := by
          rcases hrs2.2 with ⟨_, h0⟩ | ⟨g, _, _, he, _⟩
          · omega
          · injection he with h3 _ _; exact ⟨g, h3⟩
        have r0 : wr.cell? ⟨gp, k * 2, none⟩ = some (.int .i64 (m : Nat)) := by rw [hrow.cellAt (k * 2) (by omega)]; exact (wrC_at s.pend k _ hx).1
        have r1 : wr.cell? ⟨gp, k * 2 + 1, none⟩ = some (.string d) := by rw [hrow.cellAt (k * 2 + 1) (by omega)]; exact (wrC_at s.pend k _ hx).2
        have ga := gb_alloc wr (.cells #[.int .i64 (m : Nat), .string d] 35) none
        have b9 := Blk.mk wr 35 #[.int .i64 (m : Nat), .string d]
        have hPa := hP.keep0 ga
        obtain ⟨c0, _, _, _, _, _, _⟩ := dk_cells hPa.1
        have s0 : (wr.alloc (.cells #[.int .i64 (m : Nat), .string d] 35)).cell? ⟨gs, m, none⟩ = some (.string ((laidF (s.pend.take k) s.secs).getD m noS)) := by
          rw [(own_keep0' hrs2 ga).cellAt m (by omega)]; exact strs_at (by omega)
        have s1' := (own_keep0' hrs2 ga).frozenAt m
        have b90 := b9.cell 0 rfl
        have b91 := b9.cell 1 rfl
        have hnx := take_one s.pend k _ hx
        have hm0 : (0 : Int) ≤ (m : Int) := by omega
        have hm1 : (m : Int) < (s.secs.length : Int) := by omega
        have hk0 : (0 : Int) ≤ (k : Int) := by omega
        have hk1 : (k : Int) < (s.pend.length : Int) := by omega
        have hE : laidF (s.pend.take (k + 1)) s.secs = (laidF (s.pend.take k) s.secs).set m d := by rw [hnx, laidF_snoc]; rfl
        have hnew : PDv ((wr.alloc (.cells #[.int .i64 (m : Nat), .string d] 35)).drew.setCell ⟨gs, m, none⟩ (.string d)) base p (.slice (some ⟨gs, 0, none⟩) s.secs.length cap) (.slice (some ⟨gp, 0, none⟩) s.pend.length pcap) bm D { s1 with secs := laidF (s.pend.take (k + 1)) s.secs } := by
          rw [hE]
          exact pdv_lay (s := { s1 with secs := laidF (s.pend.take k) s.secs }) (hPa.keep0 (gb_drew _ _)) hll.symm d (by omega)
        have hkn : Kp F w ((wr.alloc (.cells #[.int .i64 (m : Nat), .string d] 35)).drew.setCell ⟨gs, m, none⟩ (.string d)) :=
          ((hkp.step0 ga).step0 (gb_drew _ _)).step (gb_set _ _ _ _ _) (fun k e => by cases e; exact .inl (HF.out _ (.inr (.inr (.inl rfl)))))
        have HN := Lib.hid (And.intro hnew hkn)
        obtain ⟨L0, hL0⟩ : ∃ L0, (laidF (s.pend.take k) s.secs).getD m noS = L0 := ⟨_, rfl⟩
        rw [hL0] at s0
        clear hnew hkn hE hnx hP hkp hrow hrs hpe hll hrs2 hPa heach hx hm hL0 b9 ga
        go_wp2
        go_region
        all_goals go_wp2
        all_goals
          go_roundw
          case rel => exact ⟨k + 1, by omega, by go_num, HN.out.1, HN.out.2⟩
          case measure => simp [intOf]; omega
      · obtain rfl : k = s.pend.length := by omega
        rw [List.take_of_length_le (Nat.le_refl _)] at hP
        have hlt' : ¬ ((s.pend.length : Int) < (s.pend.length : Int)) := by omega
        go_wp2_with (go_at_call 46; (with_reducible refine (dforget_any _ base p _ _ bm D _ hP).mono ?_); rintro e w4 ⟨rfl, hP4, k4⟩)
        go_ret
        exact ⟨rfl, ⟨_, _, _, _, hP4, fun k hk => HF.out k (by
          rcases hk with h | h | h | h
          · exact .inl h
          · exact .inr (.inl h)
          · exact .inr (.inr (.inl h))
          · cases h)⟩, hkp.trans (k4.mono (fun k hk => by
          rcases hk with rfl | rfl
          · exact HF.out _ (.inl rfl)
          · exact HF.out _ (.inr (.inl rfl))))⟩
  · have hbt : barS s = opS s true := by unfold barS; rw [if_neg (by rw [hE]; exact h0)]
    have hne : (E != 0) = true := by simp [h0]
    rw [hbt]
    clear hE hbt h0
    go_enter Tryd.func21, Tryd.ntmps21
    go_wp2_with (go_at_call 42; (refine (HO.out).mono ?_); rintro e w3 ⟨rfl, g3, hP3⟩; have HX := Lib.hid hP3; clear hP3)
    go_ret
    exact ⟨rfl, ⟨_, _, _, _, HX.out, HF.out⟩, Kp.of g3 (fun k e => by cases e; exact HF.out _ (.inl rfl))⟩
end Go.Proofs.YtcoegaipojnndaaDoor
