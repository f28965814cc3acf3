/-
  The disk's Boot, over this seat's translation; conditions: the disk lies as Dk0 tells, its counts are small, the choices read as bytes, the table of masks as the program lays it.
-/
import Derived.Test.YtcoegaipojnndaaDoorDk4
namespace Go.Proofs.YtcoegaipojnndaaDoor
open Go.RowKit Go.Maps

theorem atF_range (cs : List UInt8) (n : Nat) : 0 ≤ atF cs n ∧ atF cs n ≤ 256 := by
  unfold atF; split <;> omega
theorem came_short (cs : List UInt8) (n : Int) : (cameF cs (manyN n)).length ≤ 1000000 := by rw [cameF_length]; have := manyN_le n; omega
/-- What becomes of the disk when the sectors are others. -/
theorem pdv_other {w : World} {base low p : Nat} {vs vs' vp : Value} {bm : Nat} {D : DataW Unit} {s : St} {l : List ByteArray} (h : PDv w base p vs vp bm D s) (own : w.ownsRow low 9 1 vs' l.length (strsC l)) (hl : base ≤ low) :
    PDv (w.setCell ⟨p, 0, none⟩ vs') base p vs' vp bm D { s with secs := l } := by
  obtain ⟨a1, a2, a3, a4, a5, a6, a7⟩ := h
  have gs := gb_set w p 0 none vs'
  exact ⟨a1.set 0 _, (owns_less own hl).kept gs (Or.inr (blk_row a1 own (by decide))), a3.kept gs (Or.inr (blk_row a1 a3 (by decide))), a4.kept gs (ne_some (map_blk a4 a1).symm), a5, a6, a7⟩
set_option maxRecDepth 100000 in
set_option maxHeartbeats 1000000 in
theorem dboot_any (w : World) (base : Nat) (F : Nat → Prop) (p : Nat) (s : St) (vc : Value) (cs : List UInt8) (N : Nat) (hP : PD w base F p s) (hok : s.Ok N) (hN : N ≤ 5000) (hb0 : base ≤ w.heap.size) (hm : Masks w) (hc : Bts w vc cs) :
    Calls Tryd.prog 25 #[.pointer (some ⟨p, 0, none⟩), vc] w fun e w' => e = .returned (.tuple #[]) ∧ PD w' base (Nw F w w') p (bootS s cs) ∧ Kp F w w' := by
  obtain ⟨vs, vp, bm, D, hv, hf⟩ := hP
  obtain ⟨ao, cap, rfl⟩ := pdv_vs hv
  obtain ⟨po, pcap, rfl⟩ := pdv_vp hv
  have HC := Lib.hid hc
  obtain ⟨co, ccap, rfl, _, _, _, _⟩ := hc
  have hpl := hok.plen
  have hsl := hok.len
  have HV := Lib.hid hv
  have HF := Lib.hid hf
  have HM := Lib.hid hm
  obtain ⟨_, c1, _, _, _, _, _⟩ := dk_cells hv.1
  obtain ⟨t, ht⟩ : ∃ t, tornF cs (manyN (s.pend.length : Int)) = t := ⟨_, rfl⟩
  obtain ⟨a, ha⟩ : ∃ a, atF cs (manyN (s.pend.length : Int)) = a := ⟨_, rfl⟩
  obtain ⟨b, hb⟩ : ∃ b, cameF cs (manyN (s.pend.length : Int)) = b := ⟨_, rfl⟩
  have har := atF_range cs (manyN (s.pend.length : Int))
  have hbl := came_short cs (s.pend.length : Int)
  rw [ha] at har
  rw [hb] at hbl
  have hbs : bootS s cs = { s with secs := afterF s.secs s.pend b t a, pend := [], off := false, armed := false, left := 0 } := by unfold bootS; rw [ht, ha, hb]
  rw [hbs]
  have rd : Calls Tryd.prog 9 #[.slice co cs.length ccap, .int .i64 (s.pend.length : Nat)] w (FateGot w b t a) := by
    have := read_any _ cs (s.pend.length : Int) w HM.out HC.out (by omega) (by omega)
    rw [ht, ha, hb] at this
    exact this
  have af : ∀ w1 bo bcap, w.grownBy w1 none → Bls w1 (.slice bo b.length bcap) b → Calls Tryd.prog 11 #[.slice ao s.secs.length cap, .slice po s.pend.length pcap, .agg #[.slice bo b.length bcap, .int .i64 t, .int .i64 a]] ((w1.alloc (.cells #[.slice bo b.length bcap, .int .i64 t, .int .i64 a] 25)).drew)
      (fun e w2 => ∃ no nc, e = .returned (.slice no s.secs.length nc) ∧ w.grownBy w2 none ∧ PDv (w2.setCell ⟨p, 0, none⟩ (.slice no s.secs.length nc)) base p (.slice no s.secs.length nc) (.slice po s.pend.length pcap) bm D { s with secs := afterF s.secs s.pend b t a } ∧
        (∀ k, (Value.slice no s.secs.length nc).ownBlock = some k → w.heap.size ≤ k ∧ k < w2.heap.size)) := by
    intro w1 bo bcap g1 hv1
    have ga := gb_trans (gb_alloc w1 (.cells #[.slice bo b.length bcap, .int .i64 t, .int .i64 a] 25) none) (gb_drew _ none)
    have hP2 := HV.out.keep0 (gb_trans g1 ga)
    refine (after_new _ _ _ s.secs s.pend b t a _ (sts_of_row hP2.2.1 rfl) (wts_of_owns hP2.2.2.1 rfl) (hv1.keep0 ga) hbl (by omega) hok.whole (by omega) (by omega)).mono ?_
    rintro e w2 ⟨v2, rfl, own, g2⟩
    obtain ⟨no, nc, rfl, _⟩ := Sl.of_owns own
    have hsz := g1.size
    have hsz2 := ga.size
    have hP3 := hP2.keep0 g2
    have hle := afterF_length s.secs s.pend b t a
    refine ⟨no, nc, rfl, gb_trans (gb_trans g1 ga) g2, pdv_other hP3 (by rw [hle]; exact own) (by omega), fun k hk => ?_⟩
    have := own.lt k hk
    omega
  have HR := Lib.hid rd
  have HA := Lib.hid af
  have fin : ∀ w2 no nc, w.grownBy w2 none → PDv (w2.setCell ⟨p, 0, none⟩ (.slice no s.secs.length nc)) base p (.slice no s.secs.length nc) (.slice po s.pend.length pcap) bm D { s with secs := afterF s.secs s.pend b t a } →
      w2.cell? ⟨p, 0, none⟩ = some (.slice ao s.secs.length cap) ∧ w2.frozen? ⟨p, 0, none⟩ = false := by
    intro w2 no nc g2 _
    have := (HV.out.keep0 g2).1
    exact ⟨this.cell 0 rfl, this.free 0⟩
  have HFn := Lib.hid fin
  have c0 : w.cell? ⟨p, 0, none⟩ = some (.slice ao s.secs.length cap) := HV.out.1.cell 0 rfl
  clear hbs ht ha hb rd af hv hm hf fin
  go_enter Tryd.func25, Tryd.ntmps25
  go_wp2_with (go_at_call 9; (refine (HR.out).mono ?_); rintro e w1 ⟨v1, rfl, hv1, g1⟩; have HV1 := Lib.hid hv1; obtain ⟨bo, bcap, rfl, _, _, _, _⟩ := hv1; have ga := gb_alloc w1 (.cells #[.slice bo b.length bcap, .int .i64 t, .int .i64 a] 25) none; have d0 := (gb_trans g1 ga).cell c0 (by simp); have d1 := (gb_trans g1 ga).cell c1 (by simp); have d4 := (Blk.mk w1 25 #[.slice bo b.length bcap, .int .i64 t, .int .i64 a]).cell 0 rfl; have d5 := (Blk.mk w1 25 #[.slice bo b.length bcap, .int .i64 t, .int .i64 a]).cell 1 rfl; have d6 := (Blk.mk w1 25 #[.slice bo b.length bcap, .int .i64 t, .int .i64 a]).cell 2 rfl)
  go_region_with (go_at_call 11; (refine (HA.out w1 bo bcap g1 HV1.out).mono ?_); rintro e w2 ⟨no, nc, rfl, g2, hP2, hlt⟩; obtain ⟨e0, e1⟩ := HFn.out w2 no nc g2 hP2; have HP2 := Lib.hid hP2; clear hP2)
  all_goals
    go_wp2_with (first
      | (go_at_call 46; (with_reducible refine (dforget_any _ base p _ _ bm D _ HP2.out).mono ?_); rintro e w4 ⟨rfl, hP4, k4⟩; obtain ⟨_, _, _, _, x4, _, _⟩ := dk_cells hP4.1; have y4 := hP4.1.free 4; have z4 := hP4.1.set 4 (.bool false); have HP4 := Lib.hid hP4; clear hP4)
      | (go_at_call 47; (refine (disarm_any _ p (.slice no s.secs.length nc) (.slice none 0 0) bm { s with secs := afterF s.secs s.pend b t a, pend := [], off := false } z4).mono ?_); rintro e w5 ⟨rfl, hb5, g5⟩))
    go_end0
    have g45 := gb_trans (gb_set w4 p 4 none (.bool false)) g5
    have hkF : ∀ k, footP p (.slice ao s.secs.length cap) (.slice po s.pend.length pcap) bm k → F k := HF.out
    have hs1 := g2.size
    have hs2 := k4.size
    have hs3 := g45.size
    simp only [World.size_setCell] at hs2
    refine ⟨rfl, ⟨_, _, _, _, pdv_turn HP4.out rfl rfl hb5 g45, fun k hk => ?_⟩, ?_⟩
    · rcases hk with h | h | h | h
      · exact .inl (hkF k (.inl h))
      · exact .inl (hkF k (.inr (.inl h)))
      · have := hlt k h
        exact .inr ⟨this.1, by omega⟩
      · cases h
    · refine (((Kp.of0 (F := F) g2).step (gb_set w2 p 0 none _) (fun k e => by cases e; exact .inl (hkF _ (.inl rfl)))).trans (k4.mono (fun k hk => ?_))).step g45 (fun k e => by cases e; exact .inl (hkF _ (.inl rfl)))
      rcases hk with rfl | rfl
      · exact hkF _ (.inl rfl)
      · exact hkF _ (.inr (.inl rfl))
end Go.Proofs.YtcoegaipojnndaaDoor
