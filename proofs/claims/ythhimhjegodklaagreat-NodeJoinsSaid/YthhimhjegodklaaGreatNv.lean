/-
  What the call of a reading for all keys and Kids answers and leaves (keys), over this seat's translation: what plain mathematics reads, or it gives up; conditions: the reading lies as it is told, a count of at most 255.
-/
import Derived.Test.YthhimhjegodklaaGreatNu
namespace Go.Proofs.YthhimhjegodklaaGreat.N11
set_option linter.unusedSimpArgs false
set_option linter.unusedVariables false
open Go.RowKit
/-- Blocks of different kinds are different ones. -/
theorem row_other {w : World} {j base : Nat} {t e : TypeId} {vs : Array Value} {size : Nat} {v : Value} {n : Nat} {xs : List Value} (h : Blk w j t vs) (o : w.ownsRow base e size v n xs) (hne : t ≠ e) : some j ≠ v.ownBlock := by
  intro he
  rcases o.2 with ⟨rfl, _⟩ | ⟨i, cap, cur, rfl, _, hh, _⟩
  · cases he
  · cases he
    unfold Blk at h
    rw [hh] at h
    injection h with h
    injection h with h1 h2 h3
    exact hne h2.symm
theorem row_rows {w : World} {base base' : Nat} {t e : TypeId} {size size' : Nat} {v v' : Value} {n n' : Nat} {xs xs' : List Value} (o : w.ownsRow base t size v n xs) (o' : w.ownsRow base' e size' v' n' xs') (hne : t ≠ e) : v.ownBlock = none ∨ v.ownBlock ≠ v'.ownBlock := by
  rcases o.2 with ⟨rfl, _⟩ | ⟨i, cap, cur, rfl, _, hh, _⟩
  · exact .inl rfl
  · right
    intro he
    rcases o'.2 with ⟨rfl, _⟩ | ⟨i', cap', cur', rfl, _, hh', _⟩
    · cases he
    · have : i = i' := Option.some.inj he
      subst this
      rw [hh] at hh'
      injection hh' with h
      injection h with h1 h2 h3
      exact hne h2
def KeysI (b g N R base n : Nat) (s : ByteArray) (i0 : Int) (l : List UInt8) (w : World) (k : Nat) (lst : ByteArray) (wr : World) : Prop :=
  ∃ (pre : List ByteArray) (pis : List Int) (rest : List UInt8) (kv iv : Value), Blk wr N 26 #[.bool false, .slice none 0 0, kv, iv] ∧ RowS wr base kv pre ∧ RowI wr base iv (i0 :: pis) ∧ RG wr b g s rest ∧ Kq b g w wr ∧ Blk wr R 26 #[.bool false, .slice none 0 0, .slice none 0 0, .slice none 0 0] ∧ pre.length = k ∧ pis.length = k ∧
    keysR noS n l = (keysR lst (n - k) rest).bind fun x => some ((pre ++ x.1.1, pis ++ x.1.2), x.2)
theorem rowI_new (w : World) (n : Int) (base : Nat) (hb : base ≤ w.heap.size) : RowI (w.alloc (.cells #[.int .i64 n] 3)) base (.slice (some ⟨w.heap.size, 0, none⟩) 1 1) [n] :=
  ⟨rfl, .inr ⟨w.heap.size, 1, #[.int .i64 n], rfl, hb, heap_alloc_new w _, Nat.le_refl _, by unfold maxLen; omega, rfl, rfl⟩⟩
set_option maxRecDepth 100000 in
set_option maxHeartbeats 2000000 in
theorem keys_any (b g n : Nat) (s : ByteArray) (l : List UInt8) (w : World) (h : RG w b g s l) (hs : s.size ≤ 9223372036854775807) (hn : n ≤ 255) : Calls Tryz.prog 46 #[.pointer (some ⟨g, 0, none⟩), .int .i64 (n : Nat)] w (NodeR b g s w (innerR n l)) := by
  obtain ⟨w0, hw0, kR, g0, hz0⟩ := new1 w 26 #[.bool false, .slice none 0 0, .slice none 0 0, .slice none 0 0]
  have HW := Lib.hid hw0
  have hgb : b < w.heap.size := h.ltb
  have hgg : g < w.heap.size := h.ltg
  have hne3 : w.heap.size ≠ b := by omega
  have hne4 : w.heap.size ≠ g := by omega
  have H0 := Lib.hid (h.keep0 g0)
  have K0 : Hid (Kq b g w w0) := Lib.hid (Kq.of0 g0)
  have hsz0 : w.heap.size + 1 ≤ w0.heap.size := by omega
  clear hw0 g0 hz0 h
  cases hc0 : kidR l with
  | none =>
    have HC := Lib.hid hc0
    have HQ : Hid (innerR n l = none) := Lib.hid (by unfold innerR; rw [hc0]; rfl)
    clear hc0
    go_enter Tryz.func46, Tryz.ntmps46
    go_wp2_with (go_at_call 50; rw [← HW.out]; (with_reducible refine (kid_none b g s l _ H0.out hs HC.out).mono ?_); rintro e w2 ⟨pv, l2, rfl, hw, h2, k2⟩)
    rw [HQ.out]
    exact ⟨rfl, pv, l2, rfl, hw, h2, K0.out.trans k2⟩
  | some x =>
    obtain ⟨i0, l2⟩ := x
    have HC := Lib.hid hc0
    have HQ : Hid (innerR n l = (keysR noS n l2).bind fun x => some (⟨false, [], x.1.1, i0 :: x.1.2⟩, x.2)) := Lib.hid (by unfold innerR; rw [hc0]; rfl)
    clear hc0
    go_enter Tryz.func46, Tryz.ntmps46
    go_wp2_with (go_at_call 50; rw [← HW.out]; (with_reducible refine (kid_some b g s i0 l l2 _ H0.out hs HC.out).mono ?_); rintro e w1 ⟨rfl, h1, k1⟩)
    obtain ⟨wa, hwa, kN, ga, hza⟩ := new1 (w1.alloc (.cells #[.int .i64 i0] 3)) 26 #[.bool false, .slice none 0 0, .slice none 0 0, .slice (some ⟨w1.heap.size, 0, none⟩) 1 1]
    have hsz1 : w.heap.size + 1 ≤ w1.heap.size := Nat.le_trans hsz0 k1.size
    have hNsz : (w1.alloc (.cells #[.int .i64 i0] 3)).heap.size = w1.heap.size + 1 := by simp
    have HI : KeysI b g (w1.heap.size + 1) w.heap.size (w.heap.size + 1) n s i0 l2 w 0 noS wa := ⟨[], [], l2, _, _, by rw [← hNsz]; exact kN, RowS.nil _ _, (rowI_new w1 i0 _ hsz1).keep0 ga, (h1.keep0 (gb_alloc _ _ _)).keep0 ga, ((K0.out.trans k1).trans (Kq.of0 (gb_alloc _ _ _))).trans (Kq.of0 ga), ((k1.blk kR hne3 hne4).keep0 (gb_alloc _ _ _)).keep0 ga, rfl, rfl, by rw [Nat.sub_zero]; cases keysR noS n l2 <;> rfl⟩
    rw [← hwa]
    have hNb : w1.heap.size + 1 ≠ b := by omega
    have hNg : w1.heap.size + 1 ≠ g := by omega
    have hNR : w1.heap.size + 1 ≠ w.heap.size := by omega
    have hNlt : w.heap.size + 1 ≤ w1.heap.size + 1 := by omega
    clear hwa kN ga hza hNsz h1 k1 kR
    generalize w1.heap.size + 1 = N at HI hNb hNg hNR hNlt ⊢
    go_loopw [6, 13] (fun la i wr => ∃ (k : Nat) (lst : ByteArray), k ≤ n ∧ i = .int .i64 k ∧ la = .string lst ∧ KeysI b g N w.heap.size (w.heap.size + 1) n s i0 l2 w k lst wr) (fun _ i _ => n - (intOf i).toNat)
    case atStart => exact ⟨0, noS, Nat.zero_le _, rfl, rfl, HI⟩
    case round =>
      clear HI
      obtain ⟨k, lst, hk, rfl, rfl, hI⟩ := hrel
      obtain ⟨pre, pis, rest, kv, iv, kN, hrK, hrI, hRG, hKq, kR, hpl, hpi, heq⟩ := hI
      obtain ⟨ko, kn, kc, rfl⟩ := shape' hrK.sl
      obtain ⟨io, inn, ic, rfl⟩ := shape' hrI.sl
      by_cases hlt : k < n
      · obtain ⟨m, hm⟩ : ∃ m, n - k = m + 1 := ⟨n - k - 1, by omega⟩
        rw [hm, keysR] at heq
        have hwl : N + 1 ≤ wr.heap.size := kN.lt
        cases hc : keyR rest with
        | none =>
          have HKEY := Lib.hid (key_none b g s rest wr hRG hs hc)
          rw [hc] at heq
          have HQ2 : Hid (innerR n l = none) := Lib.hid (by rw [HQ.out, heq]; rfl)
          have HKQ := Lib.hid hKq
          clear heq hc hrK hrI hRG hKq
          go_wp2_with (go_at_call 51; (with_reducible refine HKEY.out.mono ?_); rintro e w2 ⟨pv, l3, rfl, hw, h2, k2⟩)
          rw [HQ2.out]
          exact ⟨rfl, pv, l3, rfl, hw, h2, HKQ.out.trans k2⟩
        | some x =>
          obtain ⟨ck, rest2⟩ := x
          have HKEY := Lib.hid (key_some b g s ck rest rest2 wr hRG hs hc)
          rw [hc, Option.bind_some] at heq
          try dsimp only at heq
          rcases hb : ltS lst ck with _ | _
          · rw [hb] at heq
            have HQ2 : Hid (innerR n l = none) := Lib.hid (by rw [HQ.out, heq]; rfl)
            have hq := leq_spell _ _ hb
            have HKQ := Lib.hid hKq
            clear heq hc hrK hrI hRG hKq hb
            go_wp2_with (first
              | (go_at_call 51; (with_reducible refine HKEY.out.mono ?_); rintro e w2 ⟨rfl, h2, k2⟩)
              | (go_at_call 43; (with_reducible refine (must_no _ _).mono ?_); rintro e wm ⟨rfl, rfl⟩))
            rw [HQ2.out]
            exact ⟨rfl, _, _, rfl, .inr ⟨_, rfl⟩, h2, HKQ.out.trans k2⟩
          · rw [hb, if_pos rfl] at heq
            have hq := leq_spell _ _ hb
            have HKQ := Lib.hid hKq
            have HEQ := Lib.hid heq
            have HK := Lib.hid hrK
            have HIS := Lib.hid hrI
            have hpl2 : pre.length ≤ 1000000 := by omega
            have hpi2 : (i0 :: pis).length ≤ 1000000 := by rw [List.length_cons]; omega
            clear heq hc hrK hrI hRG hKq hb
            go_wp2_with (first
              | (go_at_call 51; (with_reducible refine HKEY.out.mono ?_); rintro e w2 ⟨rfl, h2, k2⟩; have kN2 := k2.blk kN hNb hNg; have kR2 := k2.blk kR hne3 hne4; have HK2 := Lib.hid (k2.row HK.out (by omega) (by omega)); have HI2 := Lib.hid (k2.row HIS.out (by omega) (by omega)); have H2 := Lib.hid h2; have K2 := Lib.hid (HKQ.out.trans k2); have hw2 : N + 1 ≤ w2.heap.size := Nat.le_trans hwl k2.size; clear h2 k2 kN kR; have n1 := kN2.cell 2 rfl)
              | (go_at_call 43; (with_reducible refine (must_ok _ _).mono ?_); rintro e wm ⟨rfl, rfl⟩)
              | (at_builtin; go_must (obtain ⟨uB, hB, kB, gB, hzz⟩ := new1 w2 9 #[.string ck]; obtain ⟨v', w', hr, hs', hg'⟩ := row_app_S (RowS.keep0 (show RowS w2 _ _ pre from HK2.out) gB) (sts_one kB) hpl2 (by simp) (Nat.le_trans (show w.heap.size + 1 ≤ w2.heap.size by omega) gB.size) 23; obtain ⟨xo, xn, xc, rfl⟩ := shape' (RowS.sl hs'); rw [← hB]; clear hB hzz n1; have hrKB := RowS.keep0 (show RowS w2 _ _ pre from HK2.out) gB; have hfN := row_other (kN2.keep0 gB) hrKB (by decide); have hfR := row_other (kR2.keep0 gB) hrKB (by decide); have hIB := RowI.keep0 (show RowI w2 _ _ (i0 :: pis) from HI2.out) gB; have HI3 := Lib.hid (hIB.kept hg' (row_rows hIB hrKB (by decide))); replace kN2 := (kN2.keep0 gB).keep hg' hfN; replace kR2 := (kR2.keep0 gB).keep hg' hfR; have HK3 := Lib.hid hs'; have H3 := Lib.hid (RG.keepR (H2.out.keep0 gB) hg' (row_ne hrKB (.inl (by omega))) (row_ne hrKB (.inl (by omega)))); have K3 := Lib.hid (Kq.stepR (K2.out.trans (Kq.of0 gB)) hg' (fun j e => by have := (hrKB.lt j e).1; omega)); have HR := Lib.hid hr; have hwv : N + 1 ≤ w'.heap.size := Nat.le_trans hw2 (Nat.le_trans gB.size hg'.size); clear hr hs' hg' hfN hfR hrKB hIB gB kB; have n1 := kN2.cell 2 rfl; have f1 := kN2.free 2; refine Lib.wpList_append_run _ rfl _ _ _ _ rfl _ _ rfl rfl _ _ HR.out ?_)))
            obtain ⟨u, hu⟩ : ∃ u : World, u = w'.setCell ⟨N, 2, none⟩ (.slice xo xn xc) := ⟨_, rfl⟩
            rw [← hu]
            have gu : w'.grownBy u (some N) := by rw [hu]; exact gb_set _ _ _ _ _
            have kNu : Blk u N 26 #[.bool false, .slice none 0 0, .slice xo xn xc, .slice io inn ic] := by rw [hu]; exact kN2.set 2 _
            have kRu := kR2.keep gu (ne_some hNR.symm)
            have hKu : RowS u (w.heap.size + 1) (.slice xo xn xc) (pre ++ [ck]) := World.ownsRow.kept HK3.out gu (.inr (row_other kN2 HK3.out (by decide)).symm)
            have hIu : RowI u (w.heap.size + 1) (.slice io inn ic) (i0 :: pis) := World.ownsRow.kept HI3.out gu (.inr (row_other kN2 HI3.out (by decide)).symm)
            have HKU := Lib.hid (hKu.keep0 (gb_drew u none))
            have HIU := Lib.hid (hIu.keep0 (gb_drew u none))
            have HU := Lib.hid ((H3.out.keep gu hNb hNg).keep0 (gb_drew u none))
            have KU := Lib.hid ((K3.out.step gu (by omega)).trans (Kq.of0 (gb_drew u none)))
            have kNd := kNu.keep0 (gb_drew u none)
            have kRd := kRu.keep0 (gb_drew u none)
            have hud : N + 1 ≤ u.drew.heap.size := Nat.le_trans hwv (Nat.le_trans gu.size (gb_drew u none).size)
            have HNO : Hid (kidR rest2 = none → innerR n l = none) := Lib.hid (fun e => by rw [HQ.out, HEQ.out, e]; rfl)
            clear hu gu kNu kRu hKu hIu kN2 kR2 n1 f1
            refine wp_region_held_drew (S := fun _ => True) (by kernel_rfl) trivial (fun hHeld => ?_)
            have kN := kNd
            have kR := kRd
            clear kNd kRd
            generalize u.drew = x0 at HKU HIU HU KU kN kR hud hHeld ⊢
            refine wpAnyH_take (i := 0) (v := ?_) (List.getElem?_toArray.trans rfl) (by kernel_rfl) (by kernel_rfl) (by kernel_rfl) (fun _ _ _ h => h) (Or.inl ⟨by rfl, ?_⟩) hHeld ?_
            rotate_left
            · intro w' hSw; go_simp; try with_reducible rfl
            try simp only [Act.put, List.setIfInBounds_toArray, List.set_cons_zero, List.set_cons_succ]
            refine wpAnyH_take (i := 2) (v := ?_) (List.getElem?_toArray.trans rfl) (by kernel_rfl) (by kernel_rfl) (by kernel_rfl) (fun _ _ _ h => h) (Or.inl ⟨by rfl, ?_⟩) hHeld ?_
            rotate_left
            · intro w' hSw; go_simp; try with_reducible rfl
            try simp only [Act.put, List.setIfInBounds_toArray, List.set_cons_zero, List.set_cons_succ]
            refine wpAnyH_ready (rs := [1, 3]) (by kernel_rfl) (by simp) ?_
            refine AllReadyH.cons (List.getElem?_toArray.trans rfl) (fun K hK => ?_) (AllReadyH.cons (List.getElem?_toArray.trans rfl) (fun K hK => ?_) AllReadyH.nil)
            · have n3 := kN.cell 3 rfl
              go_simp
              clear n3
              refine hK.out _ _ (trivial) (fun hHeld => ?_)
              clear hK K
              try simp only [Act.put, List.setIfInBounds_toArray, List.set_cons_zero, List.set_cons_succ]
              refine wpAnyH_ready (rs := [3]) (by kernel_rfl) (by simp) ?_
              refine AllReadyH.cons (List.getElem?_toArray.trans rfl) (fun K hK => ?_) AllReadyH.nil
              go_simp
              go_at_call 50
              rcases hkr : kidR rest2 with _ | ⟨i1, rest3⟩
              · refine (kid_none b g s rest2 _ HU.out hs hkr).mono ?_; rintro e wz ⟨pv, l3, rfl, hw, h2, k2⟩; show bodyPost Tryz.prog Tryz.f46 (NodeR b g s w (innerR n l)) (.panic _) _ _; rw [HNO.out hkr]; exact ⟨rfl, pv, l3, rfl, hw, h2, KU.out.trans k2⟩
              (with_reducible refine (kid_some b g s i1 rest2 rest3 _ HU.out hs hkr).mono ?_)
              rintro e x2 ⟨rfl, h4, k4⟩
              replace kN := k4.blk kN hNb hNg
              replace kR := k4.blk kR hne3 hne4
              replace HKU := Lib.hid (k4.row HKU.out (by omega) (by omega))
              replace HIU := Lib.hid (k4.row HIU.out (by omega) (by omega))
              replace KU := Lib.hid (KU.out.trans k4)
              replace hud : N + 1 ≤ x2.heap.size := Nat.le_trans hud k4.size
              clear HU
              have HU := Lib.hid h4
              clear h4 k4
              refine hK.out _ _ (trivial) (fun hHeld => ?_)
              clear hK K
              try simp only [Act.put, List.setIfInBounds_toArray, List.set_cons_zero, List.set_cons_succ]
              refine wpAnyH_ready (rs := [4]) (by kernel_rfl) (by simp) ?_
              refine AllReadyH.cons (List.getElem?_toArray.trans rfl) (fun K hK => ?_) AllReadyH.nil
              go_simp
              obtain ⟨x3, hC, kC, gC, hzz⟩ := new1 x2 3 #[.int .i64 i1]
              rw [← hC]
              clear hC hzz
              replace kN := kN.keep0 gC
              replace kR := kR.keep0 gC
              replace HKU := Lib.hid (RowS.keep0 (show RowS x2 _ _ (pre ++ [ck]) from HKU.out) gC)
              replace HIU := Lib.hid (RowI.keep0 (show RowI x2 _ _ (i0 :: pis) from HIU.out) gC)
              replace KU := Lib.hid (KU.out.trans (Kq.of0 gC))
              replace HU := Lib.hid (HU.out.keep0 gC)
              replace hud : N + 1 ≤ x3.heap.size := Nat.le_trans hud gC.size
              generalize x2.heap.size = bC at kC ⊢
              clear gC
              refine hK.out _ _ (trivial) (fun hHeld => ?_)
              clear hK K
              try simp only [Act.put, List.setIfInBounds_toArray, List.set_cons_zero, List.set_cons_succ]
              refine wpAnyH_ready (rs := [5]) (by kernel_rfl) (by simp) ?_
              refine AllReadyH.cons (List.getElem?_toArray.trans rfl) (fun K hK => ?_) AllReadyH.nil
              obtain ⟨v5, x4, hr, hs', hg'⟩ := row_app_I HIU.out (ins_one kC) hpi2 (by simp) (show w.heap.size + 1 ≤ x3.heap.size by omega) 24
              obtain ⟨yo, yn, yc, rfl⟩ := shape' (RowI.sl hs')
              have kN5 := kN.keep hg' (row_other kN HIU.out (by decide))
              have kR5 := kR.keep hg' (row_other kR HIU.out (by decide))
              have HK5 := Lib.hid (World.ownsRow.kept HKU.out hg' (row_rows HKU.out HIU.out (by decide)))
              have H5 := Lib.hid (RG.keepR HU.out hg' (row_ne HIU.out (.inl (by omega))) (row_ne HIU.out (.inl (by omega))))
              have K5 := Lib.hid (Kq.stepR KU.out hg' (fun j e => by have := (HIU.out.lt j e).1; omega))
              have hud5 : N + 1 ≤ x4.heap.size := Nat.le_trans hud hg'.size
              have HI5 := Lib.hid hs'
              clear kN kR kC HKU HIU HU KU hud hs' hg'
              refine Lib.wp_append_run _ _ _ _ _ rfl _ _ rfl rfl _ _ hr ?_
              refine hK.out _ _ (trivial) (fun hHeld => ?_)
              clear hK K
              try simp only [Act.put, List.setIfInBounds_toArray, List.set_cons_zero, List.set_cons_succ]
              refine wpAnyH_take (i := 6) (v := ?_) (List.getElem?_toArray.trans rfl) (by kernel_rfl) (by kernel_rfl) (by kernel_rfl) (fun _ _ _ h => h) (Or.inl ⟨by rfl, ?_⟩) hHeld ?_
              rotate_left
              · intro w' hSw; go_simp; try with_reducible rfl
              try simp only [Act.put, List.setIfInBounds_toArray, List.set_cons_zero, List.set_cons_succ]
              refine wpAnyH_ready (rs := [7]) (by kernel_rfl) (by simp) ?_
              refine AllReadyH.cons (List.getElem?_toArray.trans rfl) (fun K hK => ?_) AllReadyH.nil
              have n3 := kN5.cell 3 rfl
              have f3 := kN5.free 3
              go_simp
              obtain ⟨x5, hD⟩ : ∃ z : World, z = x4.setCell ⟨N, 3, none⟩ (.slice yo yn yc) := ⟨_, rfl⟩
              rw [← hD]
              have gD : x4.grownBy x5 (some N) := by rw [hD]; exact gb_set _ _ _ _ _
              have kN6 : Blk x5 N 26 #[.bool false, .slice none 0 0, .slice xo xn xc, .slice yo yn yc] := by rw [hD]; exact kN5.set 3 _
              clear hD n3 f3
              refine hK.out _ _ (trivial) (fun hHeld => ?_)
              clear hK K
              try simp only [Act.put, List.setIfInBounds_toArray, List.set_cons_zero, List.set_cons_succ]
              refine wpAnyH_done (by kernel_rfl) ?_ _
              go_wp2
              go_roundw
              case rel =>
                refine ⟨k + 1, ck, by omega, by go_num, rfl, pre ++ [ck], pis ++ [i1], rest3, _, _, kN6, ?_, ?_, ?_, ?_, ?_, ?_, ?_, ?_⟩
                · exact World.ownsRow.kept HK5.out gD (.inr (row_other kN5 HK5.out (by decide)).symm)
                · exact World.ownsRow.kept HI5.out gD (.inr (row_other kN5 HI5.out (by decide)).symm)
                · exact H5.out.keep gD hNb hNg
                · exact K5.out.step gD (by omega)
                · exact kR5.keep gD (ne_some hNR.symm)
                · rw [List.length_append, hpl]; rfl
                · rw [List.length_append, hpi]; rfl
                · rw [HEQ.out, show n - (k + 1) = m by omega, hkr, Option.bind_some]
                  cases keysR ck m rest3 with
                  | none => rfl
                  | some x => simp
              case measure => simp [intOf]; omega
            · go_simp
              go_at_call 50
              rcases hkr : kidR rest2 with _ | ⟨i1, rest3⟩
              · refine (kid_none b g s rest2 _ HU.out hs hkr).mono ?_; rintro e wz ⟨pv, l3, rfl, hw, h2, k2⟩; show bodyPost Tryz.prog Tryz.f46 (NodeR b g s w (innerR n l)) (.panic _) _ _; rw [HNO.out hkr]; exact ⟨rfl, pv, l3, rfl, hw, h2, KU.out.trans k2⟩
              (with_reducible refine (kid_some b g s i1 rest2 rest3 _ HU.out hs hkr).mono ?_)
              rintro e x6 ⟨rfl, h4, k4⟩
              replace kN := k4.blk kN hNb hNg
              replace kR := k4.blk kR hne3 hne4
              replace HKU := Lib.hid (k4.row HKU.out (by omega) (by omega))
              replace HIU := Lib.hid (k4.row HIU.out (by omega) (by omega))
              replace KU := Lib.hid (KU.out.trans k4)
              replace hud : N + 1 ≤ x6.heap.size := Nat.le_trans hud k4.size
              clear HU
              have HU := Lib.hid h4
              clear h4 k4
              refine hK.out _ _ (trivial) (fun hHeld => ?_)
              clear hK K
              try simp only [Act.put, List.setIfInBounds_toArray, List.set_cons_zero, List.set_cons_succ]
              refine wpAnyH_ready (rs := [1, 4]) (by kernel_rfl) (by simp) ?_
              refine AllReadyH.cons (List.getElem?_toArray.trans rfl) (fun K hK => ?_) (AllReadyH.cons (List.getElem?_toArray.trans rfl) (fun K hK => ?_) AllReadyH.nil)
              · have n3 := kN.cell 3 rfl
                go_simp
                clear n3
                refine hK.out _ _ (trivial) (fun hHeld => ?_)
                clear hK K
                try simp only [Act.put, List.setIfInBounds_toArray, List.set_cons_zero, List.set_cons_succ]
                refine wpAnyH_ready (rs := [4]) (by kernel_rfl) (by simp) ?_
                refine AllReadyH.cons (List.getElem?_toArray.trans rfl) (fun K hK => ?_) AllReadyH.nil
                go_simp
                obtain ⟨x8, hC, kC, gC, hzz⟩ := new1 x6 3 #[.int .i64 i1]
                rw [← hC]
                clear hC hzz
                replace kN := kN.keep0 gC
                replace kR := kR.keep0 gC
                replace HKU := Lib.hid (RowS.keep0 (show RowS x6 _ _ (pre ++ [ck]) from HKU.out) gC)
                replace HIU := Lib.hid (RowI.keep0 (show RowI x6 _ _ (i0 :: pis) from HIU.out) gC)
                replace KU := Lib.hid (KU.out.trans (Kq.of0 gC))
                replace HU := Lib.hid (HU.out.keep0 gC)
                replace hud : N + 1 ≤ x8.heap.size := Nat.le_trans hud gC.size
                generalize x6.heap.size = bC at kC ⊢
                clear gC
                refine hK.out _ _ (trivial) (fun hHeld => ?_)
                clear hK K
                try simp only [Act.put, List.setIfInBounds_toArray, List.set_cons_zero, List.set_cons_succ]
                refine wpAnyH_ready (rs := [5]) (by kernel_rfl) (by simp) ?_
                refine AllReadyH.cons (List.getElem?_toArray.trans rfl) (fun K hK => ?_) AllReadyH.nil
                obtain ⟨v5, x9, hr, hs', hg'⟩ := row_app_I HIU.out (ins_one kC) hpi2 (by simp) (show w.heap.size + 1 ≤ x8.heap.size by omega) 24
                obtain ⟨yo, yn, yc, rfl⟩ := shape' (RowI.sl hs')
                have kN5 := kN.keep hg' (row_other kN HIU.out (by decide))
                have kR5 := kR.keep hg' (row_other kR HIU.out (by decide))
                have HK5 := Lib.hid (World.ownsRow.kept HKU.out hg' (row_rows HKU.out HIU.out (by decide)))
                have H5 := Lib.hid (RG.keepR HU.out hg' (row_ne HIU.out (.inl (by omega))) (row_ne HIU.out (.inl (by omega))))
                have K5 := Lib.hid (Kq.stepR KU.out hg' (fun j e => by have := (HIU.out.lt j e).1; omega))
                have hud5 : N + 1 ≤ x9.heap.size := Nat.le_trans hud hg'.size
                have HI5 := Lib.hid hs'
                clear kN kR kC HKU HIU HU KU hud hs' hg'
                refine Lib.wp_append_run _ _ _ _ _ rfl _ _ rfl rfl _ _ hr ?_
                refine hK.out _ _ (trivial) (fun hHeld => ?_)
                clear hK K
                try simp only [Act.put, List.setIfInBounds_toArray, List.set_cons_zero, List.set_cons_succ]
                refine wpAnyH_take (i := 6) (v := ?_) (List.getElem?_toArray.trans rfl) (by kernel_rfl) (by kernel_rfl) (by kernel_rfl) (fun _ _ _ h => h) (Or.inl ⟨by rfl, ?_⟩) hHeld ?_
                rotate_left
                · intro w' hSw; go_simp; try with_reducible rfl
                try simp only [Act.put, List.setIfInBounds_toArray, List.set_cons_zero, List.set_cons_succ]
                refine wpAnyH_ready (rs := [7]) (by kernel_rfl) (by simp) ?_
                refine AllReadyH.cons (List.getElem?_toArray.trans rfl) (fun K hK => ?_) AllReadyH.nil
                have n3 := kN5.cell 3 rfl
                have f3 := kN5.free 3
                go_simp
                obtain ⟨x10, hD⟩ : ∃ z : World, z = x9.setCell ⟨N, 3, none⟩ (.slice yo yn yc) := ⟨_, rfl⟩
                rw [← hD]
                have gD : x9.grownBy x10 (some N) := by rw [hD]; exact gb_set _ _ _ _ _
                have kN6 : Blk x10 N 26 #[.bool false, .slice none 0 0, .slice xo xn xc, .slice yo yn yc] := by rw [hD]; exact kN5.set 3 _
                clear hD n3 f3
                refine hK.out _ _ (trivial) (fun hHeld => ?_)
                clear hK K
                try simp only [Act.put, List.setIfInBounds_toArray, List.set_cons_zero, List.set_cons_succ]
                refine wpAnyH_done (by kernel_rfl) ?_ _
                go_wp2
                go_roundw
                case rel =>
                  refine ⟨k + 1, ck, by omega, by go_num, rfl, pre ++ [ck], pis ++ [i1], rest3, _, _, kN6, ?_, ?_, ?_, ?_, ?_, ?_, ?_, ?_⟩
                  · exact World.ownsRow.kept HK5.out gD (.inr (row_other kN5 HK5.out (by decide)).symm)
                  · exact World.ownsRow.kept HI5.out gD (.inr (row_other kN5 HI5.out (by decide)).symm)
                  · exact H5.out.keep gD hNb hNg
                  · exact K5.out.step gD (by omega)
                  · exact kR5.keep gD (ne_some hNR.symm)
                  · rw [List.length_append, hpl]; rfl
                  · rw [List.length_append, hpi]; rfl
                  · rw [HEQ.out, show n - (k + 1) = m by omega, hkr, Option.bind_some]
                    cases keysR ck m rest3 with
                    | none => rfl
                    | some x => simp
                case measure => simp [intOf]; omega
              · go_simp
                obtain ⟨x11, hC, kC, gC, hzz⟩ := new1 x6 3 #[.int .i64 i1]
                rw [← hC]
                clear hC hzz
                replace kN := kN.keep0 gC
                replace kR := kR.keep0 gC
                replace HKU := Lib.hid (RowS.keep0 (show RowS x6 _ _ (pre ++ [ck]) from HKU.out) gC)
                replace HIU := Lib.hid (RowI.keep0 (show RowI x6 _ _ (i0 :: pis) from HIU.out) gC)
                replace KU := Lib.hid (KU.out.trans (Kq.of0 gC))
                replace HU := Lib.hid (HU.out.keep0 gC)
                replace hud : N + 1 ≤ x11.heap.size := Nat.le_trans hud gC.size
                generalize x6.heap.size = bC at kC ⊢
                clear gC
                refine hK.out _ _ (trivial) (fun hHeld => ?_)
                clear hK K
                try simp only [Act.put, List.setIfInBounds_toArray, List.set_cons_zero, List.set_cons_succ]
                refine wpAnyH_ready (rs := [1]) (by kernel_rfl) (by simp) ?_
                refine AllReadyH.cons (List.getElem?_toArray.trans rfl) (fun K hK => ?_) AllReadyH.nil
                have n3 := kN.cell 3 rfl
                go_simp
                clear n3
                refine hK.out _ _ (trivial) (fun hHeld => ?_)
                clear hK K
                try simp only [Act.put, List.setIfInBounds_toArray, List.set_cons_zero, List.set_cons_succ]
                refine wpAnyH_ready (rs := [5]) (by kernel_rfl) (by simp) ?_
                refine AllReadyH.cons (List.getElem?_toArray.trans rfl) (fun K hK => ?_) AllReadyH.nil
                obtain ⟨v5, x13, hr, hs', hg'⟩ := row_app_I HIU.out (ins_one kC) hpi2 (by simp) (show w.heap.size + 1 ≤ x11.heap.size by omega) 24
                obtain ⟨yo, yn, yc, rfl⟩ := shape' (RowI.sl hs')
                have kN5 := kN.keep hg' (row_other kN HIU.out (by decide))
                have kR5 := kR.keep hg' (row_other kR HIU.out (by decide))
                have HK5 := Lib.hid (World.ownsRow.kept HKU.out hg' (row_rows HKU.out HIU.out (by decide)))
                have H5 := Lib.hid (RG.keepR HU.out hg' (row_ne HIU.out (.inl (by omega))) (row_ne HIU.out (.inl (by omega))))
                have K5 := Lib.hid (Kq.stepR KU.out hg' (fun j e => by have := (HIU.out.lt j e).1; omega))
                have hud5 : N + 1 ≤ x13.heap.size := Nat.le_trans hud hg'.size
                have HI5 := Lib.hid hs'
                clear kN kR kC HKU HIU HU KU hud hs' hg'
                refine Lib.wp_append_run _ _ _ _ _ rfl _ _ rfl rfl _ _ hr ?_
                refine hK.out _ _ (trivial) (fun hHeld => ?_)
                clear hK K
                try simp only [Act.put, List.setIfInBounds_toArray, List.set_cons_zero, List.set_cons_succ]
                refine wpAnyH_take (i := 6) (v := ?_) (List.getElem?_toArray.trans rfl) (by kernel_rfl) (by kernel_rfl) (by kernel_rfl) (fun _ _ _ h => h) (Or.inl ⟨by rfl, ?_⟩) hHeld ?_
                rotate_left
                · intro w' hSw; go_simp; try with_reducible rfl
                try simp only [Act.put, List.setIfInBounds_toArray, List.set_cons_zero, List.set_cons_succ]
                refine wpAnyH_ready (rs := [7]) (by kernel_rfl) (by simp) ?_
                refine AllReadyH.cons (List.getElem?_toArray.trans rfl) (fun K hK => ?_) AllReadyH.nil
                have n3 := kN5.cell 3 rfl
                have f3 := kN5.free 3
                go_simp
                obtain ⟨x14, hD⟩ : ∃ z : World, z = x13.setCell ⟨N, 3, none⟩ (.slice yo yn yc) := ⟨_, rfl⟩
                rw [← hD]
                have gD : x13.grownBy x14 (some N) := by rw [hD]; exact gb_set _ _ _ _ _
                have kN6 : Blk x14 N 26 #[.bool false, .slice none 0 0, .slice xo xn xc, .slice yo yn yc] := by rw [hD]; exact kN5.set 3 _
                clear hD n3 f3
                refine hK.out _ _ (trivial) (fun hHeld => ?_)
                clear hK K
                try simp only [Act.put, List.setIfInBounds_toArray, List.set_cons_zero, List.set_cons_succ]
                refine wpAnyH_done (by kernel_rfl) ?_ _
                go_wp2
                go_roundw
                case rel =>
                  refine ⟨k + 1, ck, by omega, by go_num, rfl, pre ++ [ck], pis ++ [i1], rest3, _, _, kN6, ?_, ?_, ?_, ?_, ?_, ?_, ?_, ?_⟩
                  · exact World.ownsRow.kept HK5.out gD (.inr (row_other kN5 HK5.out (by decide)).symm)
                  · exact World.ownsRow.kept HI5.out gD (.inr (row_other kN5 HI5.out (by decide)).symm)
                  · exact H5.out.keep gD hNb hNg
                  · exact K5.out.step gD (by omega)
                  · exact kR5.keep gD (ne_some hNR.symm)
                  · rw [List.length_append, hpl]; rfl
                  · rw [List.length_append, hpi]; rfl
                  · rw [HEQ.out, show n - (k + 1) = m by omega, hkr, Option.bind_some]
                    cases keysR ck m rest3 with
                    | none => rfl
                    | some x => simp
                case measure => simp [intOf]; omega
      · have hk2 : k = n := by omega
        subst hk2
        rw [Nat.sub_self] at heq
        have HQ2 : Hid (innerR k l = some (⟨false, [], pre, i0 :: pis⟩, rest)) := Lib.hid (by rw [HQ.out, heq]; simp [keysR])
        have n0 := kN.cell 0 rfl
        have n1 := kN.cell 1 rfl
        have n2 := kN.cell 2 rfl
        have n3 := kN.cell 3 rfl
        have HC1 := Lib.hid hrK.sl
        have HC2 := Lib.hid hrI.sl
        have HRG := Lib.hid hRG
        have HKQ := Lib.hid hKq
        clear heq hrK hrI hRG hKq
        go_wp2_with ((with_reducible refine st_node rfl w.heap.size 26 ?_ ?_ ?_ ?_ ?_ ?_ ?_ ?_ ?_ ?_ ?_ ?_ _ _ _ _ kR ?_); rotate_left 10; (· rfl); (· rfl); intro w9 n9 g9)
        refine bodyPost_ret (results_c rfl _ _ _ _ _ _ _ rfl n9) rfl ?_
        rw [HQ2.out]
        exact ⟨_, rfl, ⟨_, _, _, rfl, Sl.nil _ _, stsKeepN HC1.out (Nbl.node kR) g9, HC2.out.keepN (Nbl.node kR) g9⟩, HRG.out.keep g9 (by omega) (by omega), HKQ.out.step g9 (Nat.le_refl _)⟩
end Go.Proofs.YthhimhjegodklaaGreat.N11

