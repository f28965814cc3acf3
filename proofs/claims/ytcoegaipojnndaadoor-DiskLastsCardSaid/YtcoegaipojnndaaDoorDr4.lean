/-
  The document's own disk (foyerref05): Boot, over this seat's translation; conditions: the disk lies as Dk0 tells, its counts are small, the choices read as bytes.
-/
import Derived.Test.YtcoegaipojnndaaDoorDr3
import Derived.Test.YtcoegaipojnndaaDoorDk5
import Derived.Deep.RegionHeld3
namespace Go.Proofs.YtcoegaipojnndaaDoor
open Go.RowKit Go.Maps

theorem rdv_other {w : World} {base low p : Nat} {vs vs' vp : Value} {fuse : Int} {s : St} {l : List ByteArray} (h : RDv w base p vs vp fuse s) (own : w.ownsRow low 9 1 vs' l.length (strsC l)) (hl : base ≤ low) :
    RDv (w.setCell ⟨p, 0, none⟩ vs') base p vs' vp fuse { s with secs := l } := by
  obtain ⟨a1, a2, a3, a4, a5⟩ := h
  have gs := gb_set w p 0 none vs'
  exact ⟨a1.set 0 _, (owns_less own hl).kept gs (Or.inr (blk_row a1 own (by decide))), a3.kept gs (Or.inr (blk_row a1 a3 (by decide))), a4, a5⟩
theorem rdv_clean {w : World} {base p : Nat} {vs vp : Value} {fuse : Int} {s : St} (h : RDv w base p vs vp fuse s) :
    RDv (((w.setCell ⟨p, 1, none⟩ (.slice none 0 0)).setCell ⟨p, 2, none⟩ (.bool false)).setCell ⟨p, 3, none⟩ (.bool false)) base p vs (.slice none 0 0) fuse { s with pend := [], off := false, armed := false, left := 0 } := by
  have g := gb_trans (gb_trans (gb_set w p 1 none (.slice none 0 0)) (gb_set _ p 2 none (.bool false))) (gb_set _ p 3 none (.bool false))
  obtain ⟨a1, a2, a3, a4, a5⟩ := h
  exact ⟨((a1.set 1 _).set 2 _).set 3 _, a2.kept g (Or.inr (blk_row a1 a2 (by decide))), World.ownsRow_nil _ _ _ _, a4, fun e => by cases e⟩
set_option maxRecDepth 100000 in
set_option maxHeartbeats 2000000 in
theorem rboot_any (w : World) (base : Nat) (F : Nat → Prop) (p : Nat) (s : St) (vc : Value) (cs : List UInt8) (N : Nat) (hP : RD w base F p s) (hok : s.Ok N) (hN : N ≤ 5000) (hb0 : base ≤ w.heap.size) (hc : Bts w vc cs) :
    Calls Tryd.prog 26 #[.pointer (some ⟨p, 0, none⟩), vc] w fun e w' => e = .returned (.tuple #[]) ∧ RD w' base (Nw F w w') p (bootS s cs) ∧ Kp F w w' := by
  obtain ⟨vs, vp, fuse, hv, hf⟩ := hP
  obtain ⟨ao, cap, rfl⟩ := rdv_vs hv
  obtain ⟨po, pcap, rfl⟩ := rdv_vp hv
  have HC := Lib.hid hc
  obtain ⟨co, ccap, rfl, _, _, _, _⟩ := hc
  have hpl := hok.plen
  have hsl := hok.len
  have HV := Lib.hid hv
  have HF := Lib.hid hf
  obtain ⟨c0, c1, _, _, _, _⟩ := rk_cells hv.1
  obtain ⟨t, ht⟩ : ∃ t, tornF cs (manyN (s.pend.length : Int)) = t := ⟨_, rfl⟩
  obtain ⟨a, ha⟩ : ∃ a, atF cs (manyN (s.pend.length : Int)) = a := ⟨_, rfl⟩
  obtain ⟨b, hb⟩ : ∃ b, cameF cs (manyN (s.pend.length : Int)) = b := ⟨_, rfl⟩
  have har := atF_range cs (manyN (s.pend.length : Int))
  have hbl := came_short cs (s.pend.length : Int)
  rw [ha] at har
  rw [hb] at hbl
  have hbs : bootS s cs = { s with secs := afterF s.secs s.pend b t a, pend := [], off := false, armed := false, left := 0 } := by unfold bootS; rw [ht, ha, hb]
  rw [hbs]
  have rd : ∀ W, w.grownBy W none → Calls Tryd.prog 49 #[.slice co cs.length ccap, .int .i64 (s.pend.length : Nat)] W (FateGot W b t a) := by
    intro W g
    have := refRead_any _ cs (s.pend.length : Int) W (HC.out.keep0 g) (by omega) (by omega)
    rw [ht, ha, hb] at this
    exact this
  have af : ∀ w1 bo bcap, w.grownBy w1 none → Bls w1 (.slice bo b.length bcap) b → Calls Tryd.prog 48 #[.slice ao s.secs.length cap, .slice po s.pend.length pcap, .agg #[.slice bo b.length bcap, .int .i64 t, .int .i64 a]] w1
      (fun e w2 => ∃ no nc, e = .returned (.slice no s.secs.length nc) ∧ w.grownBy w2 none ∧ RDv (w2.setCell ⟨p, 0, none⟩ (.slice no s.secs.length nc)) base p (.slice no s.secs.length nc) (.slice po s.pend.length pcap) fuse { s with secs := afterF s.secs s.pend b t a } ∧
        (∀ k, (Value.slice no s.secs.length nc).ownBlock = some k → w.heap.size ≤ k ∧ k < w2.heap.size) ∧ w2.cell? ⟨p, 0, none⟩ = some (.slice ao s.secs.length cap) ∧ w2.frozen? ⟨p, 0, none⟩ = false ∧ w2.cell? ⟨p, 1, none⟩ = some (.slice po s.pend.length pcap)) := by
    intro w1 bo bcap g1 hv1
    have hP2 := HV.out.keep0 g1
    refine (refAfter_new _ _ _ s.secs s.pend b t a _ (sts_of_row hP2.2.1 rfl) (wts_of_owns hP2.2.2.1 rfl) hv1 hbl (by omega) (by omega) hok.whole).mono ?_
    rintro e w2 ⟨v2, rfl, own, g2⟩
    obtain ⟨no, nc, rfl, _⟩ := Sl.of_owns own
    have hsz := g1.size
    have hP3 := hP2.keep0 g2
    have hle := afterF_length s.secs s.pend b t a
    refine ⟨no, nc, rfl, gb_trans g1 g2, rdv_other hP3 (by rw [hle]; exact own) (by omega), fun k hk => ?_, hP3.1.cell 0 rfl, hP3.1.free 0, hP3.1.cell 1 rfl⟩
    have := own.lt k hk
    omega
  have HR := Lib.hid rd
  have HA := Lib.hid af
  clear hbs ht ha hb rd af hv hf
  go_enter Tryd.func26, Tryd.ntmps26
  go_wp2
  go_region_with (first
    | (go_at_call 49; (refine (HR.out _ (gb_drew w none)).mono ?_); rintro e w1 ⟨v1, rfl, hv1, g1⟩; have HV1 := Lib.hid hv1; obtain ⟨bo, bcap, rfl, _, _, _, _⟩ := hv1; have gg := gb_trans (gb_drew w none) g1; have x0 := gg.cell c0 (by simp); have x1 := gg.cell c1 (by simp))
    | (go_at_call 48; (refine (HA.out w1 bo bcap gg HV1.out).mono ?_); rintro e w2 ⟨no, nc, rfl, g2, hP2, hlt, y0, y00, y1⟩; have q1 := hP2.1.free 1; have q2 := hP2.1.free 2; have q3 := hP2.1.free 3; obtain ⟨_, r1, r2, r3, _, _⟩ := rk_cells hP2.1; have HP2 := Lib.hid hP2; clear hP2))
  all_goals
    go_wp2
    go_end0
    have g3 := gb_trans (gb_trans (gb_trans (gb_set w2 p 0 none (.slice no s.secs.length nc)) (gb_set _ p 1 none (.slice none 0 0))) (gb_set _ p 2 none (.bool false))) (gb_set _ p 3 none (.bool false))
    have hs1 := g2.size
    have hs2 := g3.size
    refine ⟨rfl, ⟨_, _, _, rdv_clean HP2.out, fun k hk => ?_⟩, (Kp.of0 (F := F) g2).step g3 (fun k e => by cases e; exact .inl (HF.out _ (.inl rfl)))⟩
    rcases hk with h | h | h
    · exact .inl (HF.out k (.inl h))
    · have := hlt k h
      exact .inr ⟨this.1, by omega⟩
    · cases h
end Go.Proofs.YtcoegaipojnndaaDoor
