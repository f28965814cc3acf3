/-
  The disk's Write, over this seat's translation; conditions: the disk lies as Dk0 tells, its counts are small.
-/
import Derived.Test.YtcoegaipojnndaaDoorDk2
namespace Go.Proofs.YtcoegaipojnndaaDoor
open Go.RowKit Go.Maps

/-- An append to a row of one's own, and where the new row lies: where it lay, or in new memory. -/
theorem near_append {P : Program} (w : World) (base : Nat) (t ty e : TypeId) (i : TypeInfo) (z : Value) (size bytes : Nat) (ht : P.underlying t = some (.slice e)) (hi : P.info? e = some i) (hz : i.zero = some z)
    (hsize : i.size = size) (hby : i.bytes = bytes) (hzs : z.cells.size = size) (hsz : 0 < size)
    (v : Value) (n : Nat) (xs : List Value) (hown : w.ownsRow base e size v n xs)
    (a : Addr) (m c : Nat) (news : List Value) (hl : news.length = m * size) (hnews : ∀ j u, news[j]? = some u → w.cell? (a.add j) = some u) (h1 : ∀ u ∈ news, u.oneCell' = true)
    (h63 : n + m ≤ maxLen) (hbytes : (n + m) * bytes ≤ 140737488355328) (hbase : base ≤ w.heap.size) :
    ∃ v' w', (Builtin.append_ #[t, t] ty #[v, .slice (some a) m c]).run P w = .ok v' w' ∧ w'.ownsRow base e size v' (n + m) (xs ++ news) ∧ w.grownBy w' v.ownBlock ∧ ∀ k, v'.ownBlock = some k → v.ownBlock = some k ∨ w.heap.size ≤ k := by
  obtain ⟨v', w', hr, h2, h3, _⟩ := run_append_own (P := P) w base t ty e i z size bytes ht hi hz hsize hby hzs hsz v n xs hown a m c news hl hnews h1 h63 hbytes hbase
  refine ⟨v', w', hr, h2, h3, ?_⟩
  have hown' := hown
  rcases hown.2 with ⟨rfl, rfl⟩ | ⟨g, cap, cur, rfl, hbg, hg, hnc, hcm, hcs, htake⟩
  · have hx : xs = [] := List.eq_nil_of_length_eq_zero (by simpa using hown.1)
    subst hx
    obtain ⟨v2, w2, hr2, k2, _, _⟩ := run_append_own (P := P) w w.heap.size t ty e i z size bytes ht hi hz hsize hby hzs hsz _ 0 [] (World.ownsRow_nil w w.heap.size e size) a m c news hl hnews h1 h63 hbytes (Nat.le_refl _)
    rw [hr] at hr2
    obtain ⟨rfl, rfl⟩ : v' = v2 ∧ w' = w2 := by cases hr2; exact ⟨rfl, rfl⟩
    exact fun k hk => .inr (k2.lt k hk).1
  · by_cases hroom : n + m ≤ cap
    · obtain ⟨w2, hr2, _, _⟩ := run_append_fits (P := P) w base t ty e i size ht hi hsize g n cap xs hown' a m c news hl hnews h1 hroom
      rw [hr] at hr2
      obtain ⟨rfl, rfl⟩ : v' = .slice (some ⟨g, 0, none⟩) (n + m) cap ∧ w' = w2 := by cases hr2; exact ⟨rfl, rfl⟩
      exact fun k hk => .inl hk
    · subst hsize
      subst hby
      have hr2 := run_append_grow (P := P) w t ty e i z ht hi hz ⟨g, 0, none⟩ n cap xs hown.1 (hown.cells (g := g) rfl) a m c news hl hnews (by omega) (by simp only [maxLen] at h63; omega) (growslice_fits (by omega) hbytes)
      rw [hr] at hr2
      intro k hk
      right
      injection hr2 with e1 _
      rw [e1] at hk
      cases hk
      exact Nat.le_refl _
set_option maxRecDepth 100000 in
set_option maxHeartbeats 1000000 in
theorem dwrite_any (w : World) (base : Nat) (F : Nat → Prop) (p : Nat) (s : St) (i : Int) (d : ByteArray) (N : Nat) (hP : PD w base F p s) (hok : s.Ok N) (hN : N ≤ 5000) (hb0 : base ≤ w.heap.size) (hi : -9223372036854775808 ≤ i ∧ i ≤ 9223372036854775807) :
    Calls Tryd.prog 18 #[.pointer (some ⟨p, 0, none⟩), .int .i64 i, .string d] w fun e w' => e = .returned (.int .i64 (opE s (mayW s i d))) ∧ PD w' base (Nw F w w') p (writeT s i d) ∧ Kp F w w' := by
  obtain ⟨vs, vp, bm, D, hv, hf⟩ := hP
  obtain ⟨ao, cap, rfl⟩ := pdv_vs hv
  obtain ⟨i0, hi0, hz0, hz1, hz2⟩ := info_parts Tryd.infoWr
  have hl2 : s.armed = true → s.left ≤ 9223372036854775807 := fun e => (hok.arm e).2
  have ho3 : 0 ≤ s.ops ∧ s.ops ≤ 1000000 := ⟨hok.ops0, by have := hok.opsN; omega⟩
  have hpl := hok.plen
  have HV := Lib.hid hv
  have HF := Lib.hid hf
  obtain ⟨E, hE⟩ : ∃ E, opE s (mayW s i d) = E := ⟨_, rfl⟩
  have HE := Lib.hid hE
  rw [hE]
  obtain ⟨hs1, hs2⟩ := opS_secs s (mayW s i d)
  have HS := Lib.hid (And.intro hs1 hs2)
  clear hf hs1 hs2 hv
  have opn : ∀ w1 w2, w.grownBy w1 none → Blk w1 (w.heap.size + 1) 3 #[.int .i64 i] → Blk w1 w.heap.size 41 #[.pointer (some ⟨p, 0, none⟩)] → w1.grownBy w2 none → Blk w2 w1.heap.size 9 #[.string d] → Calls Tryd.prog 42 #[.pointer (some ⟨p, 0, none⟩), .slice (some ⟨w2.heap.size, 0, none⟩) 2 2] (w2.alloc (.cells #[hasV (w.heap.size + 1) w.heap.size, fillsV w1.heap.size] 83)) (fun e w3 => e = .returned (.int .i64 E) ∧ w.grownBy w3 (some p) ∧ PDv w3 base p (.slice ao s.secs.length cap) vp bm D (opS s (mayW s i d))) := by
    intro w1 w2 g1 hb1 hb2 g2 hb3
    have ga := gb_alloc w2 (.cells #[hasV (w.heap.size + 1) w.heap.size, fillsV w1.heap.size] 83) none
    have hq := (Blk.mk w2 83 #[hasV (w.heap.size + 1) w.heap.size, fillsV w1.heap.size]).cell 0 rfl
    have hq2 := (Blk.mk w2 83 #[hasV (w.heap.size + 1) w.heap.size, fillsV w1.heap.size]).cell 1 rfl
    have g12 := gb_trans g2 ga
    have hP1 := HV.out.keep0 (gb_trans g1 g12)
    refine (operate_two _ p w2.heap.size (w.heap.size + 1) w.heap.size i ao cap _ bm s hP1.1 hl2 ho3 (hb1.keep0 g12) (hb2.keep0 g12) hq w1.heap.size d (hb3.keep0 ga) hq2).mono ?_
    rintro e w3 ⟨rfl, hb, g3⟩
    exact ⟨by rw [HE.out], gb_trans (gb_weak (gb_trans g1 g12) _) g3, pdv_turn hP1 HS.out.1 HS.out.2 hb g3⟩
  have HO := Lib.hid opn
  clear opn
  by_cases h0 : E = 0
  · subst h0
    have hwt : writeT s i d = { opS s (mayW s i d) with pend := s.pend ++ [(i, d)] } := by unfold writeT; rw [if_pos hE]
    rw [hwt]
    clear hE hwt
    generalize opS s (mayW s i d) = s1 at HS HO ⊢
    -- what the two writes into the disk make of it
    have fin : ∀ w3, w.grownBy w3 (some p) → PDv w3 base p (.slice ao s.secs.length cap) vp bm D s1 → ∃ w4 v5 w5 po pcap o5 c5, vp = .slice po s.pend.length pcap ∧ v5 = .slice o5 (s.pend.length + 1) c5 ∧ (Instr.mapUpdate 78 (.map (some bm)) (.int .i64 i) (.int .i64 (s.pend.length : Nat))).run Tryd.prog w3.drew = .ok () w4 ∧
        (Builtin.append_ #[36, 36] 36 #[vp, .slice (some ⟨w4.heap.size, 0, none⟩) 1 1]).run Tryd.prog (w4.alloc (.cells #[.int .i64 i, .string d] 35)) = .ok v5 w5 ∧
        (w4.cell? ⟨p, 1, none⟩ = some vp ∧ w4.frozen? ⟨p, 1, none⟩ = false ∧ w5.cell? ⟨p, 1, none⟩ = some vp ∧ w5.frozen? ⟨p, 1, none⟩ = false) ∧
        PD (w5.setCell ⟨p, 1, none⟩ v5) base (Nw F w (w5.setCell ⟨p, 1, none⟩ v5)) p { s1 with pend := s.pend ++ [(i, d)] } ∧ Kp F w (w5.setCell ⟨p, 1, none⟩ v5) := by
      intro w3 g3 hP3
      obtain ⟨po, pcap, hpo⟩ := pdv_vp hP3
      rw [HS.out.2] at hpo
      obtain ⟨a1, a2, a3, a4, a5, a6, a7⟩ := hP3
      rw [HS.out.2] at a3 a4 a5
      obtain ⟨w4, hup, m4, g4⟩ := (a4.drew).update lawI Tryd.underlying78 (by unfold maxLen; omega) (keyOf_int_mk Tryd.underlying3 (i64_wf' hi)) (plainElem_int (H := Unit) (a := (s.pend.length : Nat)) Tryd.underlying3 (i64_wf' (by omega)))
      have g34 : w3.grownBy w4 (some bm) := gb_trans (gb_drew _ _) g4
      have hpb := map_blk a4 a1
      have b4 := a1.keep g34 (ne_some hpb)
      have r4 := a2.kept g34 (Or.inr (map_row a4 a2))
      have q4 := a3.kept g34 (Or.inr (map_row a4 a3))
      have ga := gb_alloc w4 (.cells #[.int .i64 i, .string d] 35) none
      have hsz := g3.size
      have hsz4 := g34.size
      obtain ⟨v5, w5, hap, q5, g5, hnear⟩ := near_append (P := Tryd.prog) (w4.alloc (.cells #[.int .i64 i, .string d] 35)) base 36 36 35 i0 (.agg #[.int .i64 0, .string ⟨#[]⟩]) 2 24 Tryd.underlying36 hi0 hz0 hz1 hz2 rfl (by decide) vp s.pend.length _ (q4.alloc _) ⟨w4.heap.size, 0, none⟩ 1 1 [.int .i64 i, .string d] rfl (cells2_new _ _ _ _) (one_wr _ _) (by unfold maxLen; omega) (by omega) (by simp; omega)
      obtain ⟨o5, c5, hv5, _⟩ := Sl.of_owns q5
      have hne : vp.ownBlock ≠ some p := blk_row a1 a3 (by decide)
      have b5 := (b4.keep0 ga).keep g5 hne.symm
      have r5 := (own_keep0' r4 ga).kept g5 (by
        cases hx : (Value.slice ao s.secs.length cap).ownBlock with
        | none => exact .inl rfl
        | some k => exact .inr (fun e => row_row a2 a3 (by decide) k hx e.symm))
      have m5 := (m4.kept ga (by simp)).kept g5 (map_row a4 a3).symm
      have gs := gb_set w5 p 1 none v5
      have b6 := b5.set 1 v5
      refine ⟨w4, v5, w5, po, pcap, o5, c5, hpo, hv5, hup, hap, ⟨b4.cell 1 rfl, b4.free 1, b5.cell 1 rfl, b5.free 1⟩, ⟨_, v5, bm, D.put (.int .i64 i) (.lit (.int .i64 (s.pend.length : Nat))), ⟨b6, r5.kept gs (Or.inr (blk_row b5 r5 (by decide))), ?_, ?_, mapIs_put a5 (World.ownsMap.isMap a4) i d, a6, a7⟩, ?_⟩, ?_⟩
      · show (w5.setCell ⟨p, 1, none⟩ v5).ownsRow base _ 2 v5 (s.pend ++ [(i, d)]).length (wrC (s.pend ++ [(i, d)]))
        rw [wrC_snoc, List.length_append]
        exact q5.kept gs (Or.inr (blk_row b5 q5 (by decide)))
      · show (w5.setCell ⟨p, 1, none⟩ v5).ownsMap _ _ _ bm (s.pend ++ [(i, d)]).length _
        rw [List.length_append]
        exact m5.kept gs (ne_some hpb.symm)
      · intro k hk
        rcases hk with rfl | rfl | hk | hk
        · exact .inl (HF.out _ (.inl rfl))
        · exact .inl (HF.out _ (.inr (.inl rfl)))
        · exact .inl (HF.out _ (.inr (.inr (.inl hk))))
        · rcases hnear k hk with h1 | h1
          · exact .inl (HF.out _ (.inr (.inr (.inr h1))))
          · refine .inr ⟨?_, ?_⟩
            · simp at h1; omega
            · have := (q5.lt k hk).2
              have := gs.size
              omega
      · have k1 : Kp F w w3 := Kp.of g3 (fun k e => by cases e; exact HF.out _ (.inl rfl))
        have k2 := k1.step g34 (fun k e => by cases e; exact .inl (HF.out _ (.inr (.inl rfl))))
        have k3 := (k2.step0 ga).step g5 (fun k e => .inl (HF.out _ (.inr (.inr (.inr e)))))
        exact k3.step gs (fun k e => by cases e; exact .inl (HF.out _ (.inl rfl)))
    have HFin := Lib.hid fin
    clear fin
    go_enter Tryd.func18, Tryd.ntmps18
    go_wp2_with (first
      | (go_at_call 43; (with_reducible refine (hasSector_any _ _ _).mono ?_); rintro e w1 ⟨rfl, hb1, hb2, g1⟩)
      | (go_at_call 45; (with_reducible refine (fillsSector_any _ _).mono ?_); rintro e w2 ⟨rfl, hb3, g2⟩)
      | (go_at_call 42; (refine (HO.out w1 w2 g1 hb1 hb2 g2 hb3).mono ?_); rintro e w3 ⟨rfl, g3, hP3⟩; obtain ⟨c0, c1, c2, _, _, _, _⟩ := dk_cells hP3.1; obtain ⟨w4, v5, w5, po, pcap, o5, c5, rfl, rfl, hup, hap, ⟨d1, e1, d2, e2⟩, hfin, hkp⟩ := HFin.out w3 g3 hP3; clear hb1 hb2 hb3 hP3 g1 g2; have HX := Lib.hid (And.intro hfin hkp); clear hfin hkp; have HA := Lib.hid hap; clear hap))
    go_region
    all_goals go_wp2_with (at_builtin; go_must (refine list_append_run rfl _ _ 36 rfl _ _ rfl rfl _ _ HA.out rfl ?_))
    all_goals go_ret
    all_goals exact ⟨rfl, HX.out.1, HX.out.2⟩
  · have hwt : writeT s i d = opS s (mayW s i d) := by unfold writeT; rw [if_neg (by rw [hE]; exact h0)]
    have hne : (E != 0) = true := by simp [h0]
    rw [hwt]
    clear hE hwt h0
    go_enter Tryd.func18, Tryd.ntmps18
    go_wp2_with (first
      | (go_at_call 43; (with_reducible refine (hasSector_any _ _ _).mono ?_); rintro e w1 ⟨rfl, hb1, hb2, g1⟩)
      | (go_at_call 45; (with_reducible refine (fillsSector_any _ _).mono ?_); rintro e w2 ⟨rfl, hb3, g2⟩)
      | (go_at_call 42; (refine (HO.out w1 w2 g1 hb1 hb2 g2 hb3).mono ?_); rintro e w3 ⟨rfl, g3, hP3⟩; clear hb1 hb2 hb3 g1 g2; have HX := Lib.hid hP3; clear hP3))
    go_ret
    exact ⟨rfl, ⟨_, _, _, _, HX.out, fun k hk => .inl (HF.out k hk)⟩, Kp.of g3 (fun k e => by cases e; exact HF.out _ (.inl rfl))⟩
end Go.Proofs.YtcoegaipojnndaaDoor
