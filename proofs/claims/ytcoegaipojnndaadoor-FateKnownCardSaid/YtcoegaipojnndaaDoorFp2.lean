/-
  What comes of sectors, by the document's own answer (foyerref04.After), over this seat's translation; conditions: the slices read as lists, every sector is 256 bytes long, the place fits its kind.
-/
import Derived.Laws.AppendOwnNone
import Derived.Test.YtcoegaipojnndaaDoorFa3
namespace Go.Proofs.YtcoegaipojnndaaDoor
open Go.RowKit

/-- The first k bytes of what is in the sector then. -/
def partS (d H : ByteArray) (m k : Nat) : ByteArray := d.extract 0 (min k m) ++ H.extract m k
theorem ba_ext {x y : ByteArray} (h : x.data.toList = y.data.toList) : x = y := by
  cases x; cases y; simp only at h; congr 1; exact Array.toList_inj.1 h
theorem ba_extract (s : ByteArray) (a b : Nat) : (s.extract a b).data.toList = (s.data.toList.take b).drop a := by
  simp [ByteArray.extract, ByteArray.copySlice, List.drop_take]
theorem partS_size (d H : ByteArray) (m k : Nat) (hd : d.size = 256) (hH : H.size = 256) (hm : m ≤ 256) (hk : k ≤ 256) : (partS d H m k).size = k := by
  unfold partS
  simp only [ByteArray.size_append, ByteArray.size_extract]
  omega
theorem drop_take_succ {α : Type} (l : List α) (a k : Nat) (h : a ≤ k) : (l.take (k + 1)).drop a = (l.take k).drop a ++ (l.take (k + 1)).drop k := by
  have h1 : (l.take (k + 1)) = l.take k ++ (l.take (k + 1)).drop k := by
    have := List.take_append_drop k (l.take (k + 1))
    rw [List.take_take, Nat.min_eq_left (by omega)] at this
    exact this.symm
  rcases Nat.lt_or_ge k l.length with hl | hl
  · have h3 : (l.take k).length = k := by simp; omega
    conv => lhs; rw [h1]
    rw [List.drop_append, h3, show a - k = 0 by omega, List.drop_zero]
  · rw [List.take_of_length_le (by omega : l.length ≤ k + 1), List.take_of_length_le hl, List.drop_eq_nil_of_le hl, List.append_nil]
theorem partS_lo (d H : ByteArray) (m k : Nat) (h : k < m) : partS d H m k ++ d.extract k (k + 1) = partS d H m (k + 1) := by
  apply ba_ext
  unfold partS
  simp only [ByteArray.data_append, Array.toList_append, ba_extract]
  rw [Nat.min_eq_left (by omega), Nat.min_eq_left (by omega)]
  have e1 : (H.data.toList.take k).drop m = [] := List.drop_eq_nil_of_le (by simp; omega)
  have e2 : (H.data.toList.take (k + 1)).drop m = [] := List.drop_eq_nil_of_le (by simp; omega)
  rw [e1, e2, List.append_nil, List.append_nil, List.drop_zero, List.drop_zero]
  have := drop_take_succ d.data.toList 0 k (by omega)
  rw [List.drop_zero, List.drop_zero] at this
  exact this.symm
theorem partS_hi (d H : ByteArray) (m k : Nat) (h : m ≤ k) : partS d H m k ++ H.extract k (k + 1) = partS d H m (k + 1) := by
  apply ba_ext
  unfold partS
  simp only [ByteArray.data_append, Array.toList_append, ba_extract]
  rw [Nat.min_eq_right h, Nat.min_eq_right (by omega : m ≤ k + 1), List.append_assoc, ← drop_take_succ _ _ _ h]
theorem partS_zero (d H : ByteArray) (m : Nat) : partS d H m 0 = ⟨#[]⟩ := by
  apply ba_ext
  unfold partS
  simp
theorem partS_all (d H : ByteArray) (m : Nat) (hm : m ≤ 256) : partS d H m 256 = d.extract 0 m ++ H.extract m 256 := by
  unfold partS; rw [Nat.min_eq_right hm]
theorem extract_all (d : ByteArray) (hd : d.size = 256) (H : ByteArray) : partS d H 256 256 = d := by
  apply ba_ext
  unfold partS
  have hl : d.data.toList.length = 256 := hd
  simp only [ByteArray.data_append, Array.toList_append, ba_extract, Nat.min_self, List.drop_zero]
  rw [List.drop_eq_nil_of_le (by simp; omega), List.append_nil, List.take_of_length_le (by omega)]
/-- How many first bytes are the write's. -/
def cutAt (i : Nat) (t a : Int) : Nat := if (i : Int) = t then clampN a else 256
theorem cutAt_le (i : Nat) (t a : Int) : cutAt i t a ≤ 256 := by unfold cutAt; split; exact clampN_le a; omega
theorem cutAt_fin (d H : ByteArray) (i : Nat) (t a : Int) (hd : d.size = 256) : partS d H (cutAt i t a) 256 = if (i : Int) = t then cutS d a H else d := by
  unfold cutAt
  split
  · rw [partS_all _ _ _ (clampN_le a)]; rfl
  · exact extract_all d hd H
theorem strs_one {u : Value} {l : List ByteArray} (h : u ∈ strsC l) : u.oneCell' = true := by
  unfold strsC at h
  obtain ⟨s, _, rfl⟩ := List.mem_map.1 h
  rfl
theorem sts_of_owns {w : World} {base N : Nat} {v : Value} {R : List ByteArray} (own : w.ownsRow base 9 1 v N (strsC R)) (h : R.length = N) : Sts w v R := by
  subst h; exact Sl.of_owns own
/-- An append whose run is known. -/
theorem list_append_run {P : Program} {w w' : World} {ops : Array Oper} {rest : List Oper} {o : Oper} {a : Act} {Q : Exit → Act → World → Prop} (hgd : o.guard = none) (s x : Operand) (t : TypeId)
    (ho : o.op = .call { callee := .builtin .append, args := #[s, x], argTypes := #[t, t] }) (u1 u2 : Value) (hs : a.eval s = u1) (hx : a.eval x = u2) (v' : Value) (ty : TypeId)
    (hrun : (Builtin.append_ #[t, t] ty #[u1, u2]).run P w = .ok v' w') (hty : o.type = ty := by rfl) (h : wpList P ops Q rest (a.put o.dst v') w') : wpList P ops Q (o :: rest) a w := by
  subst hty
  refine wpList_plain hgd fun K hK => ?_
  unfold Oper.wp
  simp [execOp, ho, resolve, invoke, builtin, hs, hx, hrun, Result.andThen]
  exact hK _ _ h
/-- A list appended to an empty one of the call's own. -/
theorem app_strs (w : World) (v : Value) (ss : List ByteArray) (base g : Nat) (hv : Sts w v ss) (own : w.ownsRow base 9 1 (.slice (some ⟨g, 0, none⟩) 0 0) 0 []) (hb : base ≤ w.heap.size) (hl : ss.length ≤ 5000) :
    ∃ v3 w3, (Builtin.append_ #[37, 37] 37 #[.slice (some ⟨g, 0, none⟩) 0 0, v]).run Tryd.prog w = .ok v3 w3 ∧ w3.ownsRow base 9 1 v3 ss.length (strsC ss) ∧ w.grownBy w3 (some g) := by
  obtain ⟨i0, hi0, hz0, hz1, hz2⟩ := info_parts Tryd.infoStr
  obtain ⟨so, scap, rfl, hc, hsl, hsn, hsx⟩ := hv
  cases so with
  | none =>
    obtain ⟨h1, rfl⟩ := hsn rfl
    have h2 : ss = [] := List.length_eq_zero_iff.1 h1
    subst h2
    exact ⟨_, w, run_append_owned_none (P := Tryd.prog) (w := w) (w.heap.size + 1 - 1 - w.heap.size + base) 37 37 9 i0 1 Tryd.underlying37 hi0 _ 0 [] (by simpa using own), own, gb_refl _ _⟩
  | some x =>
    obtain ⟨v', w', hrun, r1, r2, _⟩ := run_append_own (P := Tryd.prog) w base 37 37 9 i0 (.string noS) 1 16 Tryd.underlying37 hi0 hz0 hz1 hz2 rfl (by decide) _ 0 [] own x ss.length scap (strsC ss) hsl (hsx x rfl) (fun u hu => strs_one hu) (by unfold maxLen; omega) (by omega) hb
    exact ⟨v', w', hrun, by simpa using r1, r2⟩
/-- A row of one's own, from a lower block on. -/
theorem owns_less {w : World} {base low : Nat} {e : TypeId} {size n : Nat} {v : Value} {xs : List Value} (h : w.ownsRow base e size v n xs) (hl : low ≤ base) : w.ownsRow low e size v n xs := by
  obtain ⟨h1, h2 | ⟨g, cap, cur, h3, h4, h5⟩⟩ := h
  · exact ⟨h1, .inl h2⟩
  · exact ⟨h1, .inr ⟨g, cap, cur, h3, Nat.le_trans hl h4, h5⟩⟩
set_option maxRecDepth 100000 in
set_option maxHeartbeats 2000000 in
theorem refAfter_new (vs vl v : Value) (ss : List ByteArray) (ws : List (Int × ByteArray)) (b : List Bool) (t a : Int) (w : World) (hs : Sts w vs ss) (hl : Wts w vl ws) (hv : Bls w v b) (hb : b.length ≤ 1000000) (hss : ss.length ≤ 5000) (hws : ws.length ≤ 5000) (hw : Whole256 ss) :
    Calls Tryd.prog 48 #[vs, vl, .agg #[v, .int .i64 t, .int .i64 a]] w (AfterNew w ss ws b t a) := by
  obtain ⟨i0, hi0, hz0, hz1, hz2⟩ := info_parts Tryd.infoStr
  obtain ⟨ao, cap, rfl, hnil, hcells⟩ := bls_parts hv
  obtain ⟨so, scap, rfl, hslc, hsl, hsn, hsx⟩ := hs
  obtain ⟨lo, lcap, rfl, _, _, hln, hlx⟩ := hl
  have HN := Lib.hid hnil
  have HC := Lib.hid hcells
  have HLN := Lib.hid hln
  have HLC := Lib.hid hlx
  have HSN := Lib.hid hsn
  have HSC := Lib.hid hsx
  clear hnil hcells hv hsn hsx hln hlx
  obtain ⟨N, hN⟩ : ∃ N, ss.length = N := ⟨_, rfl⟩
  go_enter Tryd.func48, Tryd.ntmps48
  rw [hN] at hss ⊢
  have own0 : ((w.alloc (.cells #[.slice ao b.length cap, .int .i64 t, .int .i64 a] 25)).alloc (.cells #[] 9)).ownsRow (w.heap.size + 1) 9 1 (.slice (some ⟨w.heap.size + 1, 0, none⟩) 0 0) 0 [] := by
    have := World.ownsRow_lit (e := 9) (size := 1) (base := w.heap.size + 1) (w.alloc (.cells #[.slice ao b.length cap, .int .i64 t, .int .i64 a] 25)) #[] 0 (by simp) (by decide) rfl
    rw [World.size_alloc] at this
    exact this
  have g0 := gb_trans (gb_alloc w (.cells #[.slice ao b.length cap, .int .i64 t, .int .i64 a] 25) none) (gb_alloc _ (.cells #[] 9) none)
  have b0 := (Blk.mk w 25 #[.slice ao b.length cap, .int .i64 t, .int .i64 a]).keep0 (gb_alloc _ (.cells #[] 9) none)
  obtain ⟨v3, w3, happ, own3, g3⟩ := app_strs _ (.slice so ss.length scap) ss (w.heap.size + 1) (w.heap.size + 1) (Sl.keep0 ⟨so, scap, rfl, hslc, by rw [hsl, hN], HSN.out, HSC.out⟩ g0) own0 (by simp) (by omega)
  rw [hN] at happ own3
  have bf := b0.keep g3 (ne_some (by omega))
  have hg := gb_own2 g0 own0 (by omega) g3
  clear g3 g0 b0 own0
  have HAp := Lib.hid happ
  clear happ
  go_wp2_with (at_builtin; go_must (refine list_append_run rfl _ _ 37 rfl _ _ rfl rfl _ _ HAp.out rfl ?_))
  obtain ⟨o3, cap3, rfl, _⟩ := Sl.of_owns own3
  have hR0 : strsC ss = strsC (foldW ws t a ss (cameTo b 0)) := rfl
  rw [hR0] at own3
  go_loopw [8, 9, 10, 11] (fun v8 v9 v10 v11 wr => ∃ i : Nat, i ≤ ws.length ∧ i ≤ b.length ∧ v8 = .int .i64 i ∧ Blk wr w.heap.size 25 #[.slice ao b.length cap, .int .i64 t, .int .i64 a] ∧ wr.ownsRow (w.heap.size + 1) 9 1 (.slice o3 N cap3) N (strsC (foldW ws t a ss (cameTo b i))) ∧ w.grownBy wr none) (fun v _ _ _ _ => b.length - (intOf v).toNat)
  case atStart => exact ⟨0, by omega, by omega, rfl, bf, own3, hg⟩
  case round =>
    clear bf own3 hg
    obtain ⟨i, hiw, hib, rfl, bf, own, hg⟩ := hrel
    have c0 := bf.cell 0 rfl
    have c1 := bf.cell 1 rfl
    have c2 := bf.cell 2 rfl
    by_cases h1 : i < ws.length
    · have hd1 : decide ((i : Int) < (ws.length : Int)) = true := decide_eq_true (by omega)
      by_cases h2 : i < b.length
      · have hd2 : decide ((i : Int) < (b.length : Int)) = true := decide_eq_true (by omega)
        cases lo with
        | none => have := (HLN.out rfl).1; omega
        | some y =>
          cases ao with
          | none => have := HN.out rfl; omega
          | some x =>
            have d0 := hg.cell (HC.out x rfl i _ (bools_at h2)) (by simp)
            have hgd : b.getD i false = b[i] := by simp [List.getD, h2]
            obtain ⟨⟨k, d⟩, hx⟩ : ∃ z, ws[i]? = some z := ⟨_, List.getElem?_eq_getElem h1⟩
            have hc := wrC_at ws i _ hx
            have r0 := hg.cell (HLC.out y rfl _ _ hc.1) (by simp)
            have r1 := hg.cell (HLC.out y rfl _ _ hc.2) (by simp)
            have r1' : wr.cell? ⟨(y.add (i * 2)).block, (y.add (i * 2)).off + 1, none⟩ = some (.string d) := by
              have : y.add (i * 2 + 1) = ⟨(y.add (i * 2)).block, (y.add (i * 2)).off + 1, none⟩ := by rw [← add_add]; rfl
              rw [← this]; exact r1
            have HX := Lib.hid hx
            have hi0 : (0 : Int) ≤ (i : Int) := by omega
            have hi1 : (i : Int) < (ws.length : Int) := by omega
            have hi2 : (i : Int) < (b.length : Int) := by omega
            clear hc r1 hx
            cases hbi : b[i] with
            | false =>
              rw [hbi] at d0 hgd
              have hE : foldW ws t a ss (cameTo b (i + 1)) = foldW ws t a ss (cameTo b i) := by rw [cameTo_no hgd]
              have E := Lib.hid hE
              clear hbi hgd hE
              go_wp2
              go_roundw
              case rel => exact ⟨i + 1, by omega, by omega, by go_num, bf, by rw [E.out]; exact own, hg⟩
              case measure => simp [intOf]; omega
            | true =>
              rw [hbi] at d0 hgd
              have hE : foldW ws t a ss (cameTo b (i + 1)) = stepW ws t a (foldW ws t a ss (cameTo b i)) i := by rw [cameTo_yes hgd, foldW_snoc]
              have hlenR : (foldW ws t a ss (cameTo b i)).length = N := by rw [foldW_length, hN]
              have hwR : Whole256 (foldW ws t a ss (cameTo b i)) := foldW_whole ws t a _ ss hw
              have HE := Lib.hid hE
              clear hbi hgd hE
              generalize foldW ws t a ss (cameTo b i) = R at own hlenR hwR HE
              cases hf : fitsB k d N with
              | false =>
                have hst := stepW_no ws t a R i (k, d) HX.out (by rw [hlenR]; exact hf)
                rw [hst] at HE
                have E := HE
                clear HE hst
                rcases Int.lt_or_le k 0 with hk | hk
                · have hd3 : decide (k < 0) = true := decide_eq_true hk
                  clear hf hwR
                  go_wp2
                  go_roundw
                  case rel => exact ⟨i + 1, by omega, by omega, by go_num, bf, by rw [E.out]; exact own, hg⟩
                  case measure => simp [intOf]; omega
                · have hd3 : decide (k < 0) = false := decide_eq_false (by omega)
                  rcases Int.lt_or_le k (N : Int) with hk2 | hk2
                  · have hd4 : decide ((N : Int) ≤ k) = false := decide_eq_false (by omega)
                    have hds : d.size ≠ 256 := by
                      intro e
                      unfold fitsB at hf
                      rw [decide_eq_true hk, decide_eq_true hk2, decide_eq_true e] at hf
                      cases hf
                    have hd5 : ((d.size : Int) != 256) = true := by simp; omega
                    clear hf hwR
                    go_wp2
                    go_roundw
                    case rel => exact ⟨i + 1, by omega, by omega, by go_num, bf, by rw [E.out]; exact own, hg⟩
                    case measure => simp [intOf]; omega
                  · have hd4 : decide ((N : Int) ≤ k) = true := decide_eq_true hk2
                    clear hf hwR
                    go_wp2
                    go_roundw
                    case rel => exact ⟨i + 1, by omega, by omega, by go_num, bf, by rw [E.out]; exact own, hg⟩
                    case measure => simp [intOf]; omega
              | true =>
                obtain ⟨m, hm, hml, hd256⟩ := fits_parts hf
                have hm' : k = (m : Int) := hm
                clear hm
                subst hm'
                have hst := stepW_yes ws t a R i ((m : Int), d) HX.out (by rw [hlenR]; exact hf)
                rw [hst] at HE
                obtain ⟨H, hH⟩ : ∃ H, R.getD m noS = H := ⟨_, rfl⟩
                have hh := whole_getD hwR m (by omega)
                rw [hH] at hh
                have hE2 : foldW ws t a ss (cameTo b (i + 1)) = R.set m (partS d H (cutAt i t a) 256) := by
                  rw [HE.out, cutAt_fin d H i t a hd256]
                  show R.set m (if (i : Int) = t then cutS d a (R.getD m noS) else d) = _
                  rw [hH]
                have E := Lib.hid hE2
                have hd3 : decide ((m : Int) < 0) = false := decide_eq_false (by omega)
                have hd4 : decide ((N : Int) ≤ (m : Int)) = false := decide_eq_false (by omega)
                have hd5 : ((d.size : Int) != 256) = false := by rw [hd256]; rfl
                have hq := own.2
                have hgform : ∃ g, o3 = some ⟨g, 0, none⟩ := by
                  rcases hq with ⟨_, h0⟩ | ⟨g, _, _, he, _⟩
                  · omega
                  · injection he with h3 _ _; exact ⟨g, h3⟩
                obtain ⟨g, rfl⟩ := hgform
                have p0 : wr.cell? ⟨g, m, none⟩ = some (.string H) := by
                  rw [own.cellAt m (by omega), ← hH]; exact strs_at (by omega)
                have p1 := own.frozenAt m
                have hcl := cutAt_le i t a
                obtain ⟨u, hu⟩ : ∃ u, cutAt i t a = u := ⟨_, rfl⟩
                have HU := Lib.hid hu
                rw [hu] at E hcl
                have hm0 : (0 : Int) ≤ (m : Int) := by omega
                have hm1 : (m : Int) < (N : Int) := by omega
                clear HE hst hE2 hf hq hH hu
                go_wp2_with fail
                go_loop [10, 11] (fun v10 v11 => ∃ j : Nat, j ≤ 256 ∧ v11 = .int .i64 j ∧ v10 = .string (partS d H u j)) (fun _ v => 256 - (intOf v).toNat)
                case atStart => exact ⟨0, by omega, rfl, by rw [partS_zero]⟩
                case round =>
                  obtain ⟨j, hj, rfl, rfl⟩ := hrel
                  have hps := partS_size d H u j hd256 hh hcl hj
                  by_cases hjl : j < 256
                  · have hlo := fun h => partS_lo d H u j h
                    have hhi := fun h => partS_hi d H u j h
                    have HLo := Lib.hid hlo
                    have HHi := Lib.hid hhi
                    have hxs : (d.extract j (j + 1)).size ≤ 1 := by simp only [ByteArray.size_extract]; omega
                    have hys : (H.extract j (j + 1)).size ≤ 1 := by simp only [ByteArray.size_extract]; omega
                    have hj1 : (j : Int) ≤ (j : Int) + 1 := by omega
                    have hj2 : (j : Int) + 1 ≤ 256 := by omega
                    have hj0 : (0 : Int) ≤ (j : Int) := by omega
                    obtain ⟨P, hP⟩ : ∃ P, partS d H u j = P := ⟨_, rfl⟩
                    rw [hP] at hps HLo HHi ⊢
                    have hc1 : (9223372036854775807 < P.size + (d.extract j (j + 1)).size) = False := by simp only [eq_iff_iff, iff_false]; omega
                    have hc2 : (9223372036854775807 < P.size + (H.extract j (j + 1)).size) = False := by simp only [eq_iff_iff, iff_false]; omega
                    clear hlo hhi hP
                    by_cases hit : (i : Int) = t
                    · have hu2 : u = clampN a := by rw [← HU.out]; unfold cutAt; rw [if_pos hit]
                      have ht1 : ((i : Int) == t) = true := by rw [hit]; simp
                      by_cases haj : a ≤ (j : Int)
                      · have hju : u ≤ j := by rw [hu2]; unfold clampN; omega
                        have hda : decide (a ≤ (j : Int)) = true := decide_eq_true haj
                        clear hit hu2 hxs hys
                        go_wp2
                        go_round
                        case rel => exact ⟨j + 1, by omega, by go_num, by rw [HHi.out hju]⟩
                        case measure => simp [intOf]; omega
                      · have hju : j < u := by rw [hu2]; unfold clampN; omega
                        have hda : decide (a ≤ (j : Int)) = false := decide_eq_false haj
                        clear hit hu2 hxs hys
                        go_wp2
                        go_round
                        case rel => exact ⟨j + 1, by omega, by go_num, by rw [HLo.out hju]⟩
                        case measure => simp [intOf]; omega
                    · have hu2 : u = 256 := by rw [← HU.out]; unfold cutAt; rw [if_neg hit]
                      have hju : j < u := by omega
                      have ht1 : ((i : Int) == t) = false := beq_eq_false_iff_ne.2 hit
                      clear hit hu2 hxs hys
                      go_wp2
                      go_round
                      case rel => exact ⟨j + 1, by omega, by go_num, by rw [HLo.out hju]⟩
                      case measure => simp [intOf]; omega
                  · obtain rfl : j = 256 := by omega
                    have hst := own.stored m (.string (partS d H u 256))
                    have hset : (strsC R).set m (.string (partS d H u 256)) = strsC (R.set m (partS d H u 256)) := by unfold strsC; rw [List.map_set]
                    rw [hset, ← E.out] at hst
                    have HSt := Lib.hid hst
                    have hlt := (own.lt g rfl).1
                    clear hst hset
                    go_wp2
                    go_roundw
                    case rel => exact ⟨i + 1, by omega, by omega, by go_num, bf.keep HSt.out.2 (ne_some (by omega)), HSt.out.1, gb_step hg HSt.out.2 (by omega)⟩
                    case measure => simp [intOf]; omega
      · have hd2 : decide ((i : Int) < (b.length : Int)) = false := decide_eq_false (by omega)
        obtain rfl : i = b.length := by omega
        go_wp2
        go_ret
        exact ⟨_, rfl, by rw [hN]; exact owns_less own (by omega), hg⟩
    · have hd1 : decide ((i : Int) < (ws.length : Int)) = false := decide_eq_false (by omega)
      obtain rfl : i = ws.length := by omega
      have hfin := foldW_cut ws t a ss b ws.length b.length (Nat.le_refl _) hib
      have HFin := Lib.hid hfin
      clear hfin
      go_wp2
      go_ret
      exact ⟨_, rfl, by unfold afterF; rw [HFin.out, hN]; exact owns_less own (by omega), hg⟩
theorem refAfter_any (vs vl v : Value) (ss : List ByteArray) (ws : List (Int × ByteArray)) (b : List Bool) (t a : Int) (w : World) (hs : Sts w vs ss) (hl : Wts w vl ws) (hv : Bls w v b) (hb : b.length ≤ 1000000) (hss : ss.length ≤ 1000) (hws : ws.length ≤ 1000) (hw : Whole256 ss) :
    Calls Tryd.prog 48 #[vs, vl, .agg #[v, .int .i64 t, .int .i64 a]] w (AfterGot w ss ws b t a) :=
  (refAfter_new vs vl v ss ws b t a w hs hl hv hb (by omega) (by omega) hw).mono fun _ _ h => h.got
end Go.Proofs.YtcoegaipojnndaaDoor

