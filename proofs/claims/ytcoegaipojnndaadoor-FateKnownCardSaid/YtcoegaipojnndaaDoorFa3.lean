/-
  What comes of sectors (fate.After), over this seat's translation; conditions: the slices read as lists, every sector is 256 bytes long, the place fits its kind.
-/
import Derived.Test.YtcoegaipojnndaaDoorFa2
namespace Go.Proofs.YtcoegaipojnndaaDoor
open Go.RowKit Go.Shelf
attribute [local go_sem] Oper.semAt_some

def AfterGot (w : World) (ss : List ByteArray) (ws : List (Int × ByteArray)) (b : List Bool) (t a : Int) (e : Ending) (w' : World) : Prop := ∃ v, e = .returned v ∧ Sts w' v (afterF ss ws b t a) ∧ w.grownBy w' none
/-- .. in memory of the call's own. -/
def AfterNew (w : World) (ss : List ByteArray) (ws : List (Int × ByteArray)) (b : List Bool) (t a : Int) (e : Ending) (w' : World) : Prop := ∃ v, e = .returned v ∧ w'.ownsRow w.heap.size 9 1 v ss.length (strsC (afterF ss ws b t a)) ∧ w.grownBy w' none
theorem afterF_length (ss : List ByteArray) (ws : List (Int × ByteArray)) (b : List Bool) (t a : Int) : (afterF ss ws b t a).length = ss.length := by unfold afterF; exact foldW_length _ _ _ _ _
theorem owns_of_blk {w : World} {base g N : Nat} {l : List ByteArray} (h : Blk w g 9 (strsC l).toArray) (hb : base ≤ g) (hn : l.length = N) (hN : N ≤ 100000) : w.ownsRow base 9 1 (.slice (some ⟨g, 0, none⟩) N N) N (strsC l) :=
  ⟨by simp [strsC, hn], .inr ⟨g, N, (strsC l).toArray, rfl, hb, h, Nat.le_refl _, by unfold maxLen; omega, by simp [strsC, hn], List.take_of_length_le (by simp [strsC, hn])⟩⟩
theorem sts_of_row {w : World} {base N : Nat} {v : Value} {R : List ByteArray} (own : w.ownsRow base 9 1 v N (strsC R)) (h : R.length = N) : Sts w v R := by
  subst h; exact Sl.of_owns own
theorem AfterNew.got {w : World} {ss : List ByteArray} {ws : List (Int × ByteArray)} {b : List Bool} {t a : Int} {e : Ending} {w' : World} (h : AfterNew w ss ws b t a e w') : AfterGot w ss ws b t a e w' := by
  obtain ⟨v, h1, h2, h3⟩ := h
  exact ⟨v, h1, sts_of_row h2 (afterF_length ss ws b t a), h3⟩
/-- What the rounds have made of the sectors. -/
def roundW {b : List Bool} (ws : List (Int × ByteArray)) (t a : Int) (ss : List ByteArray) (pre : List (Came b)) : List ByteArray := foldW ws t a ss (pre.map fun x => x.1.2)
theorem roundW_snoc {b : List Bool} (ws : List (Int × ByteArray)) (t a : Int) (ss : List ByteArray) (pre : List (Came b)) (x : Came b) : roundW ws t a ss (pre ++ [x]) = stepW ws t a (roundW ws t a ss pre) x.1.2 := by
  unfold roundW; rw [List.map_append, List.map_cons, List.map_nil, foldW_snoc]
set_option maxRecDepth 100000 in
set_option maxHeartbeats 2000000 in
theorem after_new (vs vl v : Value) (ss : List ByteArray) (ws : List (Int × ByteArray)) (b : List Bool) (t a : Int) (w : World) (hs : Sts w vs ss) (hl : Wts w vl ws) (hv : Bls w v b) (hb : b.length ≤ 1000000) (hss : ss.length ≤ 5000) (hw : Whole256 ss)
    (h1 : -9223372036854775808 ≤ a) (h2 : a ≤ 9223372036854775807) : Calls Tryd.prog 11 #[vs, vl, .agg #[v, .int .i64 t, .int .i64 a]] w (AfterNew w ss ws b t a) := by
  have HS := Lib.hid hs
  obtain ⟨ao, cap, rfl, hnil, hcells⟩ := bls_parts hv
  obtain ⟨so, scap, rfl, _, _, hsn, hsx⟩ := hs
  obtain ⟨lo, lcap, rfl, _, _, hln, hlx⟩ := hl
  have HN := Lib.hid hnil
  have HC := Lib.hid hcells
  have HLN := Lib.hid hln
  have HLC := Lib.hid hlx
  clear hnil hcells hv hsn hsx hln hlx
  obtain ⟨N, hN⟩ : ∃ N, ss.length = N := ⟨_, rfl⟩
  refine (callsIn_wide (n := 5)).1 ?_
  refine callsIn_of_wp_marks Tryd.func11 rfl trivial ?_ rfl
  simp only [Tryd.ntmps11, List.size_toArray, List.length_cons, List.length_nil, Nat.reduceAdd, Nat.reduceSub, Array.replicate_succ, Array.replicate_zero, List.push_toArray, List.append_toArray, List.nil_append, List.cons_append]
  have mk : ∀ W, (Instr.makeSlice 37 (.int .i64 (N : Nat)) (.int .i64 (N : Nat))).run Tryd.prog W = .ok (.slice (some ⟨W.heap.size, 0, none⟩) N N) (W.alloc (.cells (strsC (List.replicate N noS)).toArray 9)) := fun W => make_strs N (N : Nat) W rfl (by omega)
  have hg4 : w.grownBy ((((w.alloc (.cells #[.slice lo ws.length lcap] 36)).alloc (.cells #[.slice ao b.length cap, .int .i64 t, .int .i64 a] 25)).alloc (.cells (strsC (List.replicate N noS)).toArray 9)).alloc (.cells #[.slice (some ⟨w.heap.size + 1 + 1, 0, none⟩) N N] 37)) none := gb_trans (gb_trans (gb_trans (gb_alloc _ _ _) (gb_alloc _ _ _)) (gb_alloc _ _ _)) (gb_alloc _ _ _)
  have k0 := (((Blk.mk w 36 #[.slice lo ws.length lcap]).keep0 (gb_alloc _ (.cells #[.slice ao b.length cap, .int .i64 t, .int .i64 a] 25) none)).keep0 (gb_alloc _ (.cells (strsC (List.replicate N noS)).toArray 9) none)).keep0 (gb_alloc _ (.cells #[.slice (some ⟨w.heap.size + 1 + 1, 0, none⟩) N N] 37) none)
  have k1 := ((Blk.mk (w.alloc (.cells #[.slice lo ws.length lcap] 36)) 25 #[.slice ao b.length cap, .int .i64 t, .int .i64 a]).keep0 (gb_alloc _ (.cells (strsC (List.replicate N noS)).toArray 9) none)).keep0 (gb_alloc _ (.cells #[.slice (some ⟨w.heap.size + 1 + 1, 0, none⟩) N N] 37) none)
  have k2 := (Blk.mk ((w.alloc (.cells #[.slice lo ws.length lcap] 36)).alloc (.cells #[.slice ao b.length cap, .int .i64 t, .int .i64 a] 25)) 9 (strsC (List.replicate N noS)).toArray).keep0 (gb_alloc _ (.cells #[.slice (some ⟨w.heap.size + 1 + 1, 0, none⟩) N N] 37) none)
  have k3 := Blk.mk (((w.alloc (.cells #[.slice lo ws.length lcap] 36)).alloc (.cells #[.slice ao b.length cap, .int .i64 t, .int .i64 a] 25)).alloc (.cells (strsC (List.replicate N noS)).toArray 9)) 37 #[.slice (some ⟨w.heap.size + 1 + 1, 0, none⟩) N N]
  simp only [World.size_alloc] at k1 k2 k3
  obtain ⟨W5, hcopy, n2, n5⟩ := copy_strs _ (.slice so ss.length scap) ss (w.heap.size + 1 + 1) (HS.out.keep0 hg4) (by rw [hN]; exact k2) 3
  rw [hN] at hcopy
  have n0 := k0.keep n5 (ne_some (by omega))
  have n1 := k1.keep n5 (ne_some (by omega))
  have n3 := k3.keep n5 (ne_some (by omega))
  have n4 := gb_step hg4 n5 (by omega)
  have hsz5 : w.heap.size + 4 ≤ W5.heap.size := by have := n5.size; simp at this; omega
  rw [hN]
  clear k0 k1 k2 k3 hg4 n5
  have HNS := Lib.hid (And.intro n0 (And.intro n1 (And.intro n2 (And.intro n3 n4))))
  have c10 := n1.cell 0 rfl
  clear n0 n1 n2 n3 n4
  gi_wp2_with (refine ⟨trivial, ?_⟩; gi_at_call 35; (with_reducible refine (callsIn_wide.2 (arrived_any _ _ _ _)).mono ?_); rintro e w' ⟨rfl, rfl⟩)
  obtain ⟨n0, n1, n2, n3, n4⟩ := HNS.out
  replace n0 := n0.keep0 (gb_alloc _ (.cells #[.slice ao b.length cap] 23) none)
  replace n1 := n1.keep0 (gb_alloc _ (.cells #[.slice ao b.length cap] 23) none)
  replace n2 := n2.keep0 (gb_alloc _ (.cells #[.slice ao b.length cap] 23) none)
  replace n3 := n3.keep0 (gb_alloc _ (.cells #[.slice ao b.length cap] 23) none)
  have n5 := Blk.mk W5 23 #[.slice ao b.length cap]
  replace n4 := gb_trans n4 (gb_alloc W5 (.cells #[.slice ao b.length cap] 23) none)
  have hsz6 : (W5.alloc (.cells #[.slice ao b.length cap] 23)).heap.size = W5.heap.size + 1 := by simp
  generalize W5.alloc (.cells #[.slice ao b.length cap] 23) = W6 at n0 n1 n2 n3 n4 n5 hsz6 ⊢
  clear HNS c10 mk hcopy
  refine wpIn_rangeFunc_ownF (a₁ := ?fr) rfl (by omega) (gf := 50) (lb := #[.pointer (some ⟨W5.heap.size, 0, none⟩)]) rfl trivial (enters_of Tryd.func50 (by kernel_rfl) rfl)
    (arrived_stops Fence.wide _ trivial rfl (by omega) W5.heap.size w.heap.size ao cap b hb W6 (by omega) (by omega) (n5.cell 0 rfl) HN.out (fun a e hp => low_of HC.out a e hp) (fun a e j u hj => n4.cell (HC.out a e j u hj) (by simp))) kept_t kept_b (Below.refl _ _) (fun _ => rfl)
    (fun pre W => Blk W w.heap.size 36 #[.slice lo ws.length lcap] ∧ Blk W (w.heap.size + 1) 25 #[.slice ao b.length cap, .int .i64 t, .int .i64 a] ∧ Blk W (w.heap.size + 1 + 1) 9 (strsC (roundW ws t a ss pre)).toArray ∧ Blk W (w.heap.size + 1 + 1 + 1) 37 #[.slice (some ⟨w.heap.size + 1 + 1, 0, none⟩) N N] ∧ Below w.heap.size w W)
    (fun c pre W => c = Code.exit 0 ∧ Blk W (w.heap.size + 1 + 1) 9 (strsC (roundW ws t a ss pre)).toArray ∧ Blk W (w.heap.size + 1 + 1 + 1) 37 #[.slice (some ⟨w.heap.size + 1 + 1, 0, none⟩) N N] ∧ Below w.heap.size w W ∧ ∃ x ∈ pre, ws.length ≤ x.1.2)
    (OwnFrom.and (blk_own _ _ _ _) (OwnFrom.and (blk_own _ _ _ _) (OwnFrom.and (blk_own _ _ _ (fun pre => (strsC (roundW ws t a ss pre)).toArray)) (OwnFrom.and (blk_own _ _ _ _) (ownFrom_below (Nat.le_refl _) (by omega))))))
    (fun _ => OwnFrom.and (fun _ _ _ _ h _ _ => h) (OwnFrom.and (blk_own _ _ _ (fun pre => (strsC (roundW ws t a ss pre)).toArray)) (OwnFrom.and (blk_own _ _ _ _) (OwnFrom.and (ownFrom_below (Nat.le_refl _) (by omega)) (fun _ _ _ _ h _ _ => h)))))
    ⟨n0, n1, n2, n3, gb_below n4⟩
    ?assign ?body ?done ?stop
  case assign =>
    intro l x W K hK
    gi_wp2
    exact hK
  case body =>
    rintro l pre x W ⟨hT0, hT1, hT2, hT3, hB⟩ hpl
    have hlenR : (roundW ws t a ss pre).length = N := by unfold roundW; rw [foldW_length, hN]
    have hwR : Whole256 (roundW ws t a ss pre) := foldW_whole ws t a _ ss hw
    have hsn := roundW_snoc ws t a ss pre x
    obtain ⟨i, hi⟩ : ∃ i, x.1.2 = i := ⟨_, rfl⟩
    have hib : i < b.length := by rw [← hi]; exact x.2.1
    rw [hi] at hsn
    have HSn := Lib.hid hsn
    have HI := Lib.hid hi
    have c0 := hT0.cell 0 rfl
    have c11 := hT1.cell 1 rfl
    have c12 := hT1.cell 2 rfl
    have c3 := hT3.cell 0 rfl
    have hl3 := hT3.lt
    have hl0 := hT0.lt
    have hl1 := hT1.lt
    have hl2 := hT2.lt
    rw [hi]
    clear hi hsn
    by_cases hiw : ws.length ≤ i
    · have hst := stepW_none ws t a (roundW ws t a ss pre) i hiw
      rw [hst] at HSn
      have hd : decide ((ws.length : Int) ≤ (i : Int)) = true := decide_eq_true (by omega)
      clear hst
      gi_wp2
      refine ⟨KeepsOthers.refl _, rfl, by rw [HSn.out]; exact hT2, hT3, hB, x, by simp, by rw [HI.out]; exact hiw⟩
    · have hd : decide ((ws.length : Int) ≤ (i : Int)) = false := decide_eq_false (by omega)
      cases lo with
      | none => have := (HLN.out rfl).1; omega
      | some y =>
        obtain ⟨⟨k, d⟩, hx⟩ : ∃ z, ws[i]? = some z := ⟨_, List.getElem?_eq_getElem (by omega)⟩
        have hc := wrC_at ws i _ hx
        have r0 := (hB.cell (cell_lt (HLC.out y rfl _ _ hc.1))).trans (HLC.out y rfl _ _ hc.1)
        have r1 := (hB.cell (cell_lt (HLC.out y rfl _ _ hc.2))).trans (HLC.out y rfl _ _ hc.2)
        have r1' : W.cell? ⟨(y.add (i * 2)).block, (y.add (i * 2)).off + 1, none⟩ = some (.string d) := by
          have : y.add (i * 2 + 1) = ⟨(y.add (i * 2)).block, (y.add (i * 2)).off + 1, none⟩ := by rw [← add_add]; rfl
          rw [← this]; exact r1
        have HX := Lib.hid hx
        have hi0 : (0 : Int) ≤ (i : Int) := by omega
        have hi1 : (i : Int) < (ws.length : Int) := by omega
        clear hc r1 hx
        have b9 := Blk.mk W 35 #[.int .i64 k, .string d]
        have g9 := gb_alloc W (.cells #[.int .i64 k, .string d] 35) none
        cases hf : fitsB k d N with
        | false =>
          have hst := stepW_no ws t a (roundW ws t a ss pre) i (k, d) HX.out (by rw [hlenR]; exact hf)
          rw [hst] at HSn
          have HF := Lib.hid hf
          clear hst hf
          gi_wp2_with (refine ⟨trivial, ?_⟩; gi_at_call 39; (with_reducible refine (callsIn_round (fits_any k d N _)).mono ?_); rintro e w2 ⟨rfl, g2⟩; rw [HF.out])
          have g3 := gb_trans g9 g2
          refine ⟨KeepsOthers.of_grownBy g3 (fun _ _ e => by cases e), fun p v _ hv => g3.cell hv (by simp), hT0.keep0 g3, hT1.keep0 g3, by rw [HSn.out]; exact hT2.keep0 g3, hT3.keep0 g3, hB.trans ((gb_below g3).mono hB.size)⟩
        | true =>
          obtain ⟨m, hm, hml, hd256⟩ := fits_parts hf
          have hm' : k = (m : Int) := hm
          clear hm
          subst hm'
          have hst := stepW_yes ws t a (roundW ws t a ss pre) i ((m : Int), d) HX.out (by rw [hlenR]; exact hf)
          rw [hst] at HSn
          have HF := Lib.hid hf
          clear hst hf
          generalize roundW ws t a ss pre = R at hT2 hlenR hwR HSn
          have hm0 : (0 : Int) ≤ (m : Int) := by omega
          have hm1 : (m : Int) < (N : Int) := by omega
          have hw9 : IntKind.i64.wrap (m : Int) = (m : Int) := IntWalk.i64_in _ (by omega)
          by_cases hit : (i : Int) = t
          · have hsn : roundW ws t a ss (pre ++ [x]) = R.set m (cutS d a (R.getD m noS)) := by rw [HSn.out, if_pos hit]; rfl
            have HS2 := Lib.hid hsn
            have hh := whole_getD hwR m (by omega)
            obtain ⟨H, hH⟩ : ∃ H, R.getD m noS = H := ⟨_, rfl⟩
            rw [hH] at hh HS2
            have HH := Lib.hid hH
            have ht1 : ((i : Int) == t) = true := by rw [hit]; simp
            clear hsn HSn hit hH
            gi_wp2_with (refine ⟨trivial, ?_⟩; gi_at_call 39; (with_reducible refine (callsIn_round (fits_any (m : Nat) d N _)).mono ?_); rintro e w2 ⟨rfl, g2⟩; rw [HF.out]; have g3 := gb_trans g9 g2; replace hT0 := hT0.keep0 g3; replace hT1 := hT1.keep0 g3; replace hT2 := hT2.keep0 g3; replace hT3 := hT3.keep0 g3; replace b9 := b9.keep0 g2; clear c0 c11 c12 c3 r0 r1'; have c11 := hT1.cell 1 rfl; have c12 := hT1.cell 2 rfl; have c3 := hT3.cell 0 rfl; have c90 := b9.cell 0 rfl; have c91 := b9.cell 1 rfl; have e91 := b9.free 1; have d0 := hT2.cell m (v := .string H) (by rw [List.getElem?_toArray, ← HH.out]; exact strs_at (by omega)); have e0 := hT2.free m)
            have hcut : ∀ w', Calls Tryd.prog 40 #[.string d, .int .i64 a, .string H] w' (CutGot w' d a H) := fun w' => cut_any d a H w' hd256 hh h1 h2
            have HCut := Lib.hid hcut
            have hn5 : ∀ w4, w2.drew.grownBy w4 none → (w4.setCell ⟨W.heap.size, 1, none⟩ (.string (cutS d a H))).cell? ⟨w.heap.size + 1, 2, none⟩ = some (.int .i64 a) ∧ (w4.setCell ⟨W.heap.size, 1, none⟩ (.string (cutS d a H))).cell? ⟨w.heap.size + 1 + 1 + 1, 0, none⟩ = some (.slice (some ⟨w.heap.size + 1 + 1, 0, none⟩) N N) ∧ (w4.setCell ⟨W.heap.size, 1, none⟩ (.string (cutS d a H))).cell? ⟨W.heap.size, 0, none⟩ = some (.int .i64 (m : Nat)) ∧ (w4.setCell ⟨W.heap.size, 1, none⟩ (.string (cutS d a H))).cell? ⟨w.heap.size + 1 + 1, m, none⟩ = some (.string H) := by
              intro w4 g4
              have g := gb_trans (gb_drew w2 none) g4
              exact ⟨((hT1.keep0 g).keep (gb_set _ _ _ _ _) (ne_some (by omega))).cell 2 rfl, ((hT3.keep0 g).keep (gb_set _ _ _ _ _) (ne_some (by omega))).cell 0 rfl, ((b9.keep0 g).set 1 _).cell 0 rfl, ((hT2.keep0 g).keep (gb_set _ _ _ _ _) (ne_some (by omega))).cell m (by rw [List.getElem?_toArray, ← HH.out]; exact strs_at (by omega))⟩
            have HN5 := Lib.hid hn5
            clear hcut hn5
            refine wpIn_region_round (S := fun w' => w'.cell? ⟨w.heap.size + 1, 2, none⟩ = some (.int .i64 a) ∧ w'.cell? ⟨w.heap.size + 1 + 1 + 1, 0, none⟩ = some (.slice (some ⟨w.heap.size + 1 + 1, 0, none⟩) N N) ∧ w'.cell? ⟨W.heap.size, 0, none⟩ = some (.int .i64 (m : Nat)) ∧ w'.cell? ⟨w.heap.size + 1 + 1, m, none⟩ = some (.string H)) (by kernel_rfl) (by kernel_rfl) ⟨c12, c3, c90, d0⟩ (fun hHeld => ?_) (by rintro ⟨_, _, h⟩; exact h)
            refine wpAnyH_take (i := 0) (v := ?_) (List.getElem?_toArray.trans rfl) (by kernel_rfl) (by kernel_rfl) (by kernel_rfl) (fun _ _ _ h => h) (Or.inl ⟨by rfl, ?_⟩) hHeld ?_
            rotate_left
            · intro w' hSw; obtain ⟨s1, s2, s3, s4⟩ := hSw; go_simp; try with_reducible rfl
            try simp only [Act.put, List.setIfInBounds_toArray, List.set_cons_zero, List.set_cons_succ]
            refine wpAnyH_take (i := 2) (v := ?_) (List.getElem?_toArray.trans rfl) (by kernel_rfl) (by kernel_rfl) (by kernel_rfl) (fun _ _ _ h => h) (Or.inl ⟨by rfl, ?_⟩) hHeld ?_
            rotate_left
            · intro w' hSw; obtain ⟨s1, s2, s3, s4⟩ := hSw; go_simp; try with_reducible rfl
            try simp only [Act.put, List.setIfInBounds_toArray, List.set_cons_zero, List.set_cons_succ]
            refine wpAnyH_take (i := 3) (v := ?_) (List.getElem?_toArray.trans rfl) (by kernel_rfl) (by kernel_rfl) (by kernel_rfl) (fun _ _ _ h => h) (Or.inl ⟨by rfl, ?_⟩) hHeld ?_
            rotate_left
            · intro w' hSw; obtain ⟨s1, s2, s3, s4⟩ := hSw; go_simp; try with_reducible rfl
            try simp only [Act.put, List.setIfInBounds_toArray, List.set_cons_zero, List.set_cons_succ]
            refine wpAnyH_take (i := 4) (v := ?_) (List.getElem?_toArray.trans rfl) (by kernel_rfl) (by kernel_rfl) (by kernel_rfl) (fun _ _ _ h => h) (Or.inl ⟨by rfl, ?_⟩) hHeld ?_
            rotate_left
            · intro w' hSw; obtain ⟨s1, s2, s3, s4⟩ := hSw; go_simp; try with_reducible rfl
            try simp only [Act.put, List.setIfInBounds_toArray, List.set_cons_zero, List.set_cons_succ]
            refine wpAnyH_take (i := 5) (v := ?_) (List.getElem?_toArray.trans rfl) (by kernel_rfl) (by kernel_rfl) (by kernel_rfl) (fun _ _ _ h => h) (Or.inl ⟨by rfl, ?_⟩) hHeld ?_
            rotate_left
            · intro w' hSw; obtain ⟨s1, s2, s3, s4⟩ := hSw; go_simp; try with_reducible rfl
            try simp only [Act.put, List.setIfInBounds_toArray, List.set_cons_zero, List.set_cons_succ]
            refine wpAnyH_take (i := 6) (v := ?_) (List.getElem?_toArray.trans rfl) (by kernel_rfl) (by kernel_rfl) (by kernel_rfl) (fun _ _ _ h => h) (Or.inl ⟨by rfl, ?_⟩) hHeld ?_
            rotate_left
            · intro w' hSw; obtain ⟨s1, s2, s3, s4⟩ := hSw; go_simp; try with_reducible rfl
            try simp only [Act.put, List.setIfInBounds_toArray, List.set_cons_zero, List.set_cons_succ]
            refine wpAnyH_take (i := 7) (v := ?_) (List.getElem?_toArray.trans rfl) (by kernel_rfl) (by kernel_rfl) (by kernel_rfl) (fun _ _ _ h => h) (Or.inl ⟨by rfl, ?_⟩) hHeld ?_
            rotate_left
            · intro w' hSw; obtain ⟨s1, s2, s3, s4⟩ := hSw; go_simp; try with_reducible rfl
            try simp only [Act.put, List.setIfInBounds_toArray, List.set_cons_zero, List.set_cons_succ]
            refine wpAnyH_take (i := 8) (v := ?_) (List.getElem?_toArray.trans rfl) (by kernel_rfl) (by kernel_rfl) (by kernel_rfl) (fun _ _ _ h => h) (Or.inl ⟨by rfl, ?_⟩) hHeld ?_
            rotate_left
            · intro w' hSw; obtain ⟨s1, s2, s3, s4⟩ := hSw; go_simp; try with_reducible rfl
            try simp only [Act.put, List.setIfInBounds_toArray, List.set_cons_zero, List.set_cons_succ]
            refine wpAnyH_ready (rs := [1]) (by kernel_rfl) (by simp) ?_
            refine AllReadyH.cons (List.getElem?_toArray.trans rfl) (fun K hK => ?_) AllReadyH.nil
            go_simp
            refine hK.out _ _ ⟨c12, c3, c90, d0⟩ (fun hHeld => ?_)
            clear hK K
            try simp only [Act.put, List.setIfInBounds_toArray, List.set_cons_zero, List.set_cons_succ]
            refine wpAnyH_ready (rs := [9]) (by kernel_rfl) (by simp) ?_
            refine AllReadyH.cons (List.getElem?_toArray.trans rfl) (fun K hK => ?_) AllReadyH.nil
            go_simp
            go_at_call 40
            (with_reducible refine (HCut.out _).mono ?_)
            rintro e w4 ⟨rfl, g4⟩
            have b94 := b9.keep0 (gb_trans (gb_drew _ _) g4)
            have c914 := b94.cell 1 rfl
            have e914 := b94.free 1
            refine hK.out _ _ ⟨g4.cell hHeld.1 (by simp), g4.cell hHeld.2.1 (by simp), g4.cell hHeld.2.2.1 (by simp), g4.cell hHeld.2.2.2 (by simp)⟩ (fun hHeld => ?_)
            clear hK K
            try simp only [Act.put, List.setIfInBounds_toArray, List.set_cons_zero, List.set_cons_succ]
            refine wpAnyH_take (i := 10) (v := ?_) (List.getElem?_toArray.trans rfl) (by kernel_rfl) (by kernel_rfl) (by kernel_rfl) (fun _ _ _ h => h) (Or.inl ⟨by rfl, ?_⟩) hHeld ?_
            rotate_left
            · intro w' hSw; obtain ⟨s1, s2, s3, s4⟩ := hSw; go_simp; try with_reducible rfl
            try simp only [Act.put, List.setIfInBounds_toArray, List.set_cons_zero, List.set_cons_succ]
            refine wpAnyH_ready (rs := [11]) (by kernel_rfl) (by simp) ?_
            refine AllReadyH.cons (List.getElem?_toArray.trans rfl) (fun K hK => ?_) AllReadyH.nil
            go_simp
            refine hK.out _ _ (HN5.out w4 g4) (fun hHeld => ?_)
            clear hK K
            try simp only [Act.put, List.setIfInBounds_toArray, List.set_cons_zero, List.set_cons_succ]
            refine wpAnyH_done (by kernel_rfl) ?_ _
            refine NoPanic.normal ?_
            have b95 := b94.set 1 (.string (cutS d a H))
            have gA := gb_trans g3 (gb_trans (gb_drew w2 none) g4)
            have hT05 := (hT0.keep0 (gb_trans (gb_drew w2 none) g4)).keep (gb_set w4 W.heap.size 1 none (.string (cutS d a H))) (ne_some (by omega))
            have hT15 := (hT1.keep0 (gb_trans (gb_drew w2 none) g4)).keep (gb_set w4 W.heap.size 1 none (.string (cutS d a H))) (ne_some (by omega))
            have hT25 := (hT2.keep0 (gb_trans (gb_drew w2 none) g4)).keep (gb_set w4 W.heap.size 1 none (.string (cutS d a H))) (ne_some (by omega))
            have hT35 := (hT3.keep0 (gb_trans (gb_drew w2 none) g4)).keep (gb_set w4 W.heap.size 1 none (.string (cutS d a H))) (ne_some (by omega))
            have gB := gb_step gA (gb_set w4 W.heap.size 1 none (.string (cutS d a H))) (Nat.le_refl _)
            clear b94 c914 e914 hHeld
            have b96 : Blk (w4.setCell ⟨W.heap.size, 1, none⟩ (.string (cutS d a H))) W.heap.size 35 #[.int .i64 (m : Nat), .string (cutS d a H)] := b95
            clear b95 HN5 HCut
            generalize w4.setCell ⟨W.heap.size, 1, none⟩ (.string (cutS d a H)) = w5 at hT05 hT15 hT25 hT35 gB b96 ⊢
            clear c11 c12 c3 c90 c91 e91 d0 e0
            have c3 := hT35.cell 0 rfl
            have c90 := b96.cell 0 rfl
            have c91 := b96.cell 1 rfl
            have d0 := hT25.cell m (v := .string H) (by rw [List.getElem?_toArray, ← HH.out]; exact strs_at (by omega))
            have e0 := hT25.free m
            gi_wp2
            exact ⟨(KeepsOthers.of_grownBy gB (fun _ _ e => by cases e)).trans (KeepsOthers.setCell _ _ _), kept_t (fun p v _ hv => gB.cell hv (by simp)) (kept_below ((Below.refl _ w5).setCell (p := ⟨w.heap.size + 1 + 1, m, none⟩) (by show w.heap.size ≤ w.heap.size + 1 + 1; omega) _)), hT05.keep (gb_set _ _ _ _ _) (ne_some (by omega)), hT15.keep (gb_set _ _ _ _ _) (ne_some (by omega)), by rw [HS2.out, ← strs_set]; exact hT25.set m _, hT35.keep (gb_set _ _ _ _ _) (ne_some (by omega)), (hB.trans ((gb_below gB).mono hB.size)).setCell (p := ⟨w.heap.size + 1 + 1, m, none⟩) (by show w.heap.size ≤ w.heap.size + 1 + 1; omega) _⟩
          · have hsn : roundW ws t a ss (pre ++ [x]) = R.set m d := by rw [HSn.out, if_neg hit]; rfl
            have HS2 := Lib.hid hsn
            have ht1 : ((i : Int) == t) = false := beq_eq_false_iff_ne.2 hit
            clear hsn HSn hit
            gi_wp2_with (refine ⟨trivial, ?_⟩; gi_at_call 39; (with_reducible refine (callsIn_round (fits_any (m : Nat) d N _)).mono ?_); rintro e w2 ⟨rfl, g2⟩; rw [HF.out]; have g3 := gb_trans g9 g2; replace hT0 := hT0.keep0 g3; replace hT1 := hT1.keep0 g3; replace hT2 := hT2.keep0 g3; replace hT3 := hT3.keep0 g3; replace b9 := b9.keep0 g2; clear c0 c11 c12 c3 r0 r1'; have c11 := hT1.cell 1 rfl; have c12 := hT1.cell 2 rfl; have c3 := hT3.cell 0 rfl; have c90 := b9.cell 0 rfl; have c91 := b9.cell 1 rfl; have e91 := b9.free 1; have d0 := hT2.cell m (v := .string (R.getD m noS)) (by rw [List.getElem?_toArray]; exact strs_at (by omega)); have e0 := hT2.free m)
            refine ⟨(KeepsOthers.of_grownBy g3 (fun _ _ e => by cases e)).trans (KeepsOthers.setCell _ _ _), kept_t (fun p v _ hv => g3.cell hv (by simp)) (kept_below ((Below.refl _ w2).setCell (p := ⟨w.heap.size + 1 + 1, m, none⟩) (by show w.heap.size ≤ w.heap.size + 1 + 1; omega) _)), hT0.keep (gb_set _ _ _ _ _) (ne_some (by omega)), hT1.keep (gb_set _ _ _ _ _) (ne_some (by omega)), by rw [HS2.out, ← strs_set]; exact hT2.set m _, hT3.keep (gb_set _ _ _ _ _) (ne_some (by omega)), (hB.trans ((gb_below g3).mono hB.size)).setCell (p := ⟨w.heap.size + 1 + 1, m, none⟩) (by show w.heap.size ≤ w.heap.size + 1 + 1; omega) _⟩
  case done =>
    rintro D ys W hD hys ⟨hT0, hT1, hT2, hT3, hB⟩ hK
    have hfin : roundW ws t a ss ys = afterF ss ws b t a := by unfold roundW afterF; rw [hys]
    have hlenR : (roundW ws t a ss ys).length = N := by unfold roundW; rw [foldW_length, hN]
    rw [hfin] at hT2 hlenR
    have c3 := hT3.cell 0 rfl
    clear hfin hys
    gi_wp2
    refine ⟨by simp, .inl ⟨_, _, rfl, run_takeDeferred hK, ?_⟩⟩
    exact ⟨_, results_tmp rfl _ _ _, _, rfl, by rw [hN]; exact owns_of_blk (hT2.keep (grownBy_putObj' _ D _) (ne_some (by omega))) (by omega) hlenR (by omega), gb_step (gb_of_below hB) (grownBy_putObj' _ D _) (by omega)⟩
  case stop =>
    rintro D c pre W hD ⟨k, hk, hk2⟩ ⟨rfl, hT2, hT3, hB, x, hx, hxw⟩ hK
    have hfin : roundW ws t a ss pre = afterF ss ws b t a := by
      unfold roundW afterF
      rw [hk2]
      have hmem : x.1.2 ∈ cameTo b k := by rw [← hk2]; exact List.mem_map.2 ⟨x, hx, rfl⟩
      obtain ⟨j, hj⟩ := List.mem_iff_getElem?.1 hmem
      have := (came_index b k j _ hj).1
      exact (foldW_cut ws t a ss b k b.length (by omega) hk).symm
    have hlenR : (roundW ws t a ss pre).length = N := by unfold roundW; rw [foldW_length, hN]
    rw [hfin] at hT2 hlenR
    have c3 := hT3.cell 0 rfl
    clear hfin hk2 hx hxw
    gi_wp2
    refine ⟨by simp, .inl ⟨_, _, rfl, run_takeDeferred hK, ?_⟩⟩
    exact ⟨_, results_tmp rfl _ _ _, _, rfl, by rw [hN]; exact owns_of_blk (hT2.keep (grownBy_putObj' _ D _) (ne_some (by omega))) (by omega) hlenR (by omega), gb_step (gb_of_below hB) (grownBy_putObj' _ D _) (by omega)⟩
theorem after_any (vs vl v : Value) (ss : List ByteArray) (ws : List (Int × ByteArray)) (b : List Bool) (t a : Int) (w : World) (hs : Sts w vs ss) (hl : Wts w vl ws) (hv : Bls w v b) (hb : b.length ≤ 1000000) (hss : ss.length ≤ 1000) (_hws : ws.length ≤ 1000) (hw : Whole256 ss)
    (h1 : -9223372036854775808 ≤ a) (h2 : a ≤ 9223372036854775807) : Calls Tryd.prog 11 #[vs, vl, .agg #[v, .int .i64 t, .int .i64 a]] w (AfterGot w ss ws b t a) :=
  (after_new vs vl v ss ws b t a w hs hl hv hb (by omega) hw h1 h2).mono fun _ _ h => h.got
end Go.Proofs.YtcoegaipojnndaaDoor

