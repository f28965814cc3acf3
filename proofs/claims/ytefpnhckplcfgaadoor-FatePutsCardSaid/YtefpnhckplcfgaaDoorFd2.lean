/-
  FatePuts' walk: for every fate, all choices and numbers of writes the statement's function returns true; condition: the table of masks reads as the program lays it.
-/
import Derived.Test.YtefpnhckplcfgaaDoorFd1
import Derived.Test.YtefpnhckplcfgaaDoorFp1
namespace Go.Proofs.YtefpnhckplcfgaaDoor
open Go.RowKit

theorem conv_nil (w : World) : (convert 22 9 (.slice none 0 0)).run Tryd.prog w = .ok (.string ⟨#[]⟩) w := by kernel_rfl
/-- The bytes of a slice as a text. -/
theorem bts_text {w : World} {v : Value} {l : List UInt8} (h : Bts w v l) : (convert 22 9 v).run Tryd.prog w = .ok (.string ⟨l.toArray⟩) w := by
  obtain ⟨ao, cap, rfl, _, _, hn, hx⟩ := h
  cases ao with
  | none =>
    obtain ⟨h1, rfl⟩ := hn rfl
    have h2 : l = [] := List.length_eq_zero_iff.1 h1
    subst h2
    exact conv_nil w
  | some a =>
    exact run_convert_bytes_back w 22 9 5 a cap l Tryd.underlying22 Tryd.underlying5 Tryd.underlying9 (fun j hj => hx a rfl j _ (by rw [bytes_at hj, List.getD, List.getElem?_eq_getElem hj]; rfl))
/-- The first of a list of bools, in a list of the call's own. -/
theorem bls_take {w : World} {ao : Option Addr} {n cap : Nat} {l : List Bool} (h : Bls w (.slice ao l.length cap) l) (hn : n ≤ l.length) : Bls w (.slice ao n cap) (l.take n) := by
  obtain ⟨a1, c1, he, h1, h2, h3, h4⟩ := h
  injection he with e1 e2 e3
  subst e1; subst e3
  refine ⟨ao, cap, by rw [List.length_take, Nat.min_eq_left hn], by rw [List.length_take]; omega, by simp [bools], ?_, ?_⟩
  · intro e; obtain ⟨a, b⟩ := h3 e; exact ⟨by rw [List.length_take]; omega, b⟩
  · intro a e j u hj
    refine h4 a e j u ?_
    unfold bools at hj ⊢
    rw [List.map_take, List.getElem?_take] at hj
    split at hj
    · exact hj
    · cases hj
theorem app_bools (w : World) (v : Value) (l : List Bool) (base g : Nat) (hv : Bls w v l) (own : w.ownsRow base 4 1 (.slice (some ⟨g, 0, none⟩) 0 0) 0 []) (hb : base ≤ w.heap.size) (hl : l.length ≤ 100000) :
    ∃ v3 w3, (Builtin.append_ #[25, 25] 25 #[.slice (some ⟨g, 0, none⟩) 0 0, v]).run Tryd.prog w = .ok v3 w3 ∧ w3.ownsRow base 4 1 v3 l.length (bools l) ∧ w.grownBy w3 (some g) := by
  obtain ⟨i0, hi0, hz0, hz1, hz2⟩ := info_parts Tryd.infoBool
  obtain ⟨so, scap, rfl, hc, hsl, hsn, hsx⟩ := hv
  cases so with
  | none =>
    obtain ⟨h1, rfl⟩ := hsn rfl
    have h2 : l = [] := List.length_eq_zero_iff.1 h1
    subst h2
    exact ⟨_, w, run_append_owned_none (P := Tryd.prog) (w := w) base 25 25 4 i0 1 Tryd.underlying25 hi0 _ 0 [] own, own, gb_refl _ _⟩
  | some x =>
    obtain ⟨v', w', hrun, r1, r2, _⟩ := run_append_own (P := Tryd.prog) w base 25 25 4 i0 (.bool false) 1 1 Tryd.underlying25 hi0 hz0 hz1 hz2 rfl (by decide) _ 0 [] own x l.length scap (bools l) hsl (hsx x rfl) (fun u hu => by unfold bools at hu; obtain ⟨s, _, rfl⟩ := List.mem_map.1 hu; rfl) (by unfold maxLen; omega) (by omega) hb
    exact ⟨v', w', hrun, by simpa using r1, r2⟩
/-- A fate in a block, its list laid somewhere. -/
def Came2 (w : World) (fb : Nat) (l : List Bool) (t a : Int) (wr : World) : Prop :=
  ∃ v, Blk wr fb 27 #[v, .int .i64 t, .int .i64 a] ∧ Bls wr v l ∧ w.grownBy wr none
theorem not_here {w : World} {B : Nat} {o s : Option Addr} {a : Addr} {n c : Nat} {y z : Int} {v : Bool} (hb : Blk w B 27 #[.slice o n c, .int .i64 y, .int .i64 z]) (_hs : s = o) (hc : w.cell? a = some (.bool v)) : a.block ≠ B := by
  intro he
  unfold Blk at hb
  have h : (#[Value.slice o n c, .int .i64 y, .int .i64 z] : Array Value)[a.off]? = some (.bool v) := by
    simp only [World.cell?, he, hb] at hc
    split at hc
    · cases hc
    · exact hc
  match hoff : a.off with
  | 0 => rw [hoff] at h; cases h
  | 1 => rw [hoff] at h; cases h
  | 2 => rw [hoff] at h; cases h
  | k + 3 => rw [hoff] at h; simp at h
theorem came_fill {w w7 : World} {o : Option Addr} {n c : Nat} {y z : Int} {v : Value} {l : List Bool} {t a : Int} (hb : Blk w7 w.heap.size 27 #[.slice o n c, .int .i64 y, .int .i64 z]) (hv : Bls w7 v l) (hg : w.grownBy w7 none) :
    Came2 w w.heap.size l t a (((w7.setCell ⟨w.heap.size, 0, none⟩ v).setCell ⟨w.heap.size, 1, none⟩ (.int .i64 t)).setCell ⟨w.heap.size, 2, none⟩ (.int .i64 a)) := by
  refine ⟨v, blk_fill hb v (.int .i64 t) (.int .i64 a), ?_, gb_fill hg (Nat.le_refl _) _ _ _⟩
  obtain ⟨ao, cap, rfl, h1, h2, h3, h4⟩ := hv
  refine ⟨ao, cap, rfl, h1, h2, h3, ?_⟩
  intro x e j u hj
  have hc := h4 x e j u hj
  have hbool : ∃ b, u = .bool b := by
    unfold bools at hj
    rw [List.getElem?_map] at hj
    obtain ⟨b, _, hb⟩ := Option.map_eq_some_iff.1 hj
    exact ⟨b, hb.symm⟩
  obtain ⟨b, rfl⟩ := hbool
  have hne := not_here hb rfl hc
  rw [World.cell?_setCell_other _ _ _ _ (fun e => hne (by rw [← e])), World.cell?_setCell_other _ _ _ _ (fun e => hne (by rw [← e])), World.cell?_setCell_other _ _ _ _ (fun e => hne (by rw [← e]))]
  exact hc
set_option maxRecDepth 100000 in
set_option maxHeartbeats 2000000 in
theorem puts_walk (cm : Value) (bs : List Bool) (t a : Int) (vc : Value) (cs : List UInt8) (c : UInt8) (w : World) (hm : Masks w) (hb : Bls w cm bs) (hbl : bs.length ≤ 9223372036854775807) (hv : Bts w vc cs) :
    Calls Tryd.prog 4 #[.agg #[cm, .int .i64 t, .int .i64 a], vc, .int .u8 (c.toNat : Nat)] w (TrueGot w) := by
  have HM := Lib.hid hm
  have HV := Lib.hid hv
  have HB := Lib.hid hb
  obtain ⟨ao, ca, rfl, _, _, _, _⟩ := hv
  obtain ⟨bo, cb, rfl, hcb, _, _, _⟩ := hb
  clear hm
  obtain ⟨n, hn⟩ : ∃ n, min bs.length 5000 = n := ⟨_, rfl⟩
  have hnl : n ≤ bs.length := by omega
  have hn5 : n ≤ 5000 := by omega
  have b0 := (Blk.mk w 27 #[.slice bo bs.length cb, .int .i64 t, .int .i64 a]).keep0 (gb_alloc _ (.cells #[] 4) none)
  have g0 := gb_trans (gb_alloc w (.cells #[.slice bo bs.length cb, .int .i64 t, .int .i64 a] 27) none) (gb_alloc _ (.cells #[] 4) none)
  have own0 : ((w.alloc (.cells #[.slice bo bs.length cb, .int .i64 t, .int .i64 a] 27)).alloc (.cells #[] 4)).ownsRow (w.heap.size + 1) 4 1 (.slice (some ⟨w.heap.size + 1, 0, none⟩) 0 0) 0 [] := by
    have := World.ownsRow_lit (e := 4) (size := 1) (base := w.heap.size + 1) (w.alloc (.cells #[.slice bo bs.length cb, .int .i64 t, .int .i64 a] 27)) #[] 0 (by simp) (by decide) rfl
    rw [World.size_alloc] at this
    exact this
  obtain ⟨v3, w3, happ, own3, g3⟩ := app_bools _ (.slice bo n cb) (bs.take n) (w.heap.size + 1) (w.heap.size + 1) ((bls_take HB.out hnl).keep0 g0) own0 (by simp) (by rw [List.length_take]; omega)
  have bf := b0.keep g3 (ne_some (by omega))
  have hg := gb_own2 g0 own0 (by omega) g3
  have hlt : (bs.take n).length = n := by rw [List.length_take]; omega
  rw [hlt] at own3
  generalize bs.take n = ts at own3 hlt
  obtain ⟨o3, cap3, rfl, _⟩ := Sl.of_owns own3
  have HAp := Lib.hid happ
  have c0 := b0.cell 0 rfl
  clear happ g3 g0 b0 own0
  have f0 := bf.free 0
  have f00 := bf.cell 0 rfl
  have hlbf := bf.lt
  have hnil : bo = none → bs.length = 0 := by
    obtain ⟨_, _, he, _, _, h3, _⟩ := HB.out
    injection he with e1 _ _
    subst e1
    exact fun e => (h3 e).1
  have hcb0 : bo = none → cb = 0 := by
    obtain ⟨_, _, he, _, _, h3, _⟩ := HB.out
    injection he with e1 _ e3
    subst e1; subst e3
    exact fun e => (h3 e).2
  have HRd : ∀ W, w.grownBy W none → Calls Tryd.prog 11 #[.slice ao cs.length ca, .int .i64 (c.toNat : Nat)] W (FateGot W (cameF cs (manyN (c.toNat : Nat))) (tornF cs (manyN (c.toNat : Nat))) (atF cs (manyN (c.toNat : Nat)))) := by
    have := c.toNat_lt
    exact fun W g => refRead_any (.slice ao cs.length ca) cs (c.toNat : Nat) W (HV.out.keep0 g) (by omega) (by omega)
  have hcl := cameF_le cs (c.toNat : Nat)
  have hc256 := c.toNat_lt
  generalize c.toNat = NC at *
  generalize cameF cs (manyN (NC : Nat)) = l2 at HRd hcl
  generalize tornF cs (manyN (NC : Nat)) = t2 at HRd
  generalize atF cs (manyN (NC : Nat)) = a2 at HRd
  have HR := Lib.hid HRd
  clear HRd
  have hmade : Came2 w w.heap.size ts t a (w3.setCell ⟨w.heap.size, 0, none⟩ (.slice o3 n cap3)) := by
    refine ⟨.slice o3 n cap3, bf.set 0 _, ?_, gb_step hg (gb_set _ _ _ _ _) (by omega)⟩
    have := Sl.of_owns (own_set own3 (show w.heap.size < w.heap.size + 1 by omega) (k := 0) (.slice o3 n cap3))
    unfold Bls
    rw [hlt]
    exact this
  have HMd := Lib.hid hmade
  have hts : ts.length ≤ 5000 := by omega
  clear hmade own3 bf hg hlt
  go_enter Tryd.func4, Tryd.ntmps4
  cases bo with
  | none =>
    have h0 := hnil rfl
    have h1 := hcb0 rfl
    have hn0 : n = 0 := by omega
    subst hn0
    rw [h0, h1] at HAp ⊢
    go_wp2_with (at_builtin; go_must (refine list_append_run rfl _ _ 25 rfl _ _ rfl rfl _ _ HAp.out rfl ?_))
    generalize w3.setCell ⟨w.heap.size, 0, none⟩ (.slice o3 0 cap3) = w4 at HMd ⊢
    go_loopw [7, 8, 9, 10, 11] (fun v7 _ _ _ _ wr => ∃ k : Nat, k ≤ 2 ∧ v7 = .int .i64 k ∧ ∃ (l : List Bool) (u z : Int), l.length ≤ 5000 ∧ Came2 w w.heap.size l u z wr) (fun v _ _ _ _ _ => 2 - (intOf v).toNat)
    case atStart => exact ⟨0, by omega, rfl, ts, t, a, hts, HMd.out⟩
    case round =>
      obtain ⟨k, hk, rfl, l, u, z, hl, vv, bb, hbv, hg⟩ := hrel
      clear HMd
      have HBv := Lib.hid hbv
      obtain ⟨oo, cc, rfl, _, _, _, _⟩ := hbv
      have q0 := bb.cell 0 rfl
      have q1 := bb.cell 1 rfl
      have q2 := bb.cell 2 rfl
      by_cases hk2 : k < 2
      · obtain ⟨P, hP⟩ : ∃ P, putB l u z = P := ⟨_, rfl⟩
        obtain ⟨E, hE⟩ : ∃ E, putE l u z = E := ⟨_, rfl⟩
        have HP1 : Hid (Calls Tryd.prog 15 #[.agg #[.slice oo l.length cc, .int .i64 u, .int .i64 z]] wr (fun e w' => ∃ v, e = .returned (.tuple #[v, .int .i64 E]) ∧ Bts w' v P ∧ wr.grownBy w' none)) := by
          have h := put_any (.slice oo l.length cc) l u z wr (HM.out.keep0 hg) HBv.out (by omega)
          unfold PutGot at h
          rw [hP, hE] at h
          exact Lib.hid h
        have HP2 : Hid (∀ W, wr.grownBy W none → Calls Tryd.prog 16 #[.agg #[.slice oo l.length cc, .int .i64 u, .int .i64 z]] W (fun e w' => ∃ v, e = .returned (.tuple #[v, .int .i64 E]) ∧ Bts w' v P ∧ W.grownBy w' none)) := by
          refine Lib.hid fun W g => ?_
          have h := refPut_any (.slice oo l.length cc) l u z W (HBv.out.keep0 g) (by omega)
          unfold PutGot at h
          rw [hP, hE] at h
          exact h
        have hne2 : (E != E) = false := by simp
        clear hP hE
        go_wp2_with (first
          | (go_at_call 15; (with_reducible refine HP1.out.mono ?_); rintro e w5 ⟨v5, rfl, hv5, g5⟩; have HV5 := Lib.hid hv5; have b5 := bb.keep0 g5; clear hv5 q0 q1 q2; have q0 := b5.cell 0 rfl; have q1 := b5.cell 1 rfl; have q2 := b5.cell 2 rfl)
          | (go_at_call 16; (with_reducible refine (HP2.out _ g5).mono ?_); rintro e w6 ⟨v6, rfl, hv6, g6⟩; have s5 := bts_text (HV5.out.keep0 g6); have s6 := bts_text hv6; have b6 := b5.keep0 g6; clear hv6))
        go_at_call 11
        (with_reducible refine (HR.out _ (gb_trans (gb_trans hg g5) g6)).mono ?_)
        rintro e w7 ⟨v7, rfl, hv7, g7⟩
        have hv7' := hv7
        obtain ⟨o7, c7, rfl, _, _, _, _⟩ := hv7'
        have b7 := b6.keep0 g7
        have hnew : Came2 w w.heap.size l2 t2 a2 (((w7.setCell ⟨w.heap.size, 0, none⟩ (.slice o7 l2.length c7)).setCell ⟨w.heap.size, 1, none⟩ (.int .i64 t2)).setCell ⟨w.heap.size, 2, none⟩ (.int .i64 a2)) :=
          came_fill b7 hv7 (gb_trans (gb_trans (gb_trans hg g5) g6) g7)
        have HNw := Lib.hid hnew
        have q0 := b7.cell 0 rfl
        have q1 := b7.cell 1 rfl
        have q2 := b7.cell 2 rfl
        have q3 := b7.free 0
        have q4 := b7.free 1
        have q5 := b7.free 2
        clear hv7 hnew
        go_wp2
        go_roundw
        case rel => exact ⟨k + 1, by omega, by go_num, l2, t2, a2, by omega, HNw.out⟩
        case measure => simp [intOf]; omega
      · obtain rfl : k = 2 := by omega
        go_wp2_with (go_at_call 14; (with_reducible refine (works_any _ (HM.out.keep0 hg)).mono ?_); rintro e w5 ⟨rfl, g5⟩)
        go_ret
        exact ⟨rfl, gb_trans hg g5⟩
  | some x =>
    rcases Nat.lt_or_ge 5000 bs.length with h5 | h5
    · have hnb : n = 5000 := by omega
      subst hnb
      have h5' : (5000 : Int) < (bs.length : Int) := by omega
      have h5'' : (5000 : Int) ≤ (bs.length : Int) := by omega
      go_wp2_with (at_builtin; go_must (refine list_append_run rfl _ _ 25 rfl _ _ rfl rfl _ _ HAp.out rfl ?_))
      generalize w3.setCell ⟨w.heap.size, 0, none⟩ (.slice o3 5000 cap3) = w4 at HMd ⊢
      go_loopw [7, 8, 9, 10, 11] (fun v7 _ _ _ _ wr => ∃ k : Nat, k ≤ 2 ∧ v7 = .int .i64 k ∧ ∃ (l : List Bool) (u z : Int), l.length ≤ 5000 ∧ Came2 w w.heap.size l u z wr) (fun v _ _ _ _ _ => 2 - (intOf v).toNat)
      case atStart => exact ⟨0, by omega, rfl, ts, t, a, hts, HMd.out⟩
      case round =>
        obtain ⟨k, hk, rfl, l, u, z, hl, vv, bb, hbv, hg⟩ := hrel
        clear HMd
        have HBv := Lib.hid hbv
        obtain ⟨oo, cc, rfl, _, _, _, _⟩ := hbv
        have q0 := bb.cell 0 rfl
        have q1 := bb.cell 1 rfl
        have q2 := bb.cell 2 rfl
        by_cases hk2 : k < 2
        · obtain ⟨P, hP⟩ : ∃ P, putB l u z = P := ⟨_, rfl⟩
          obtain ⟨E, hE⟩ : ∃ E, putE l u z = E := ⟨_, rfl⟩
          have HP1 : Hid (Calls Tryd.prog 15 #[.agg #[.slice oo l.length cc, .int .i64 u, .int .i64 z]] wr (fun e w' => ∃ v, e = .returned (.tuple #[v, .int .i64 E]) ∧ Bts w' v P ∧ wr.grownBy w' none)) := by
            have h := put_any (.slice oo l.length cc) l u z wr (HM.out.keep0 hg) HBv.out (by omega)
            unfold PutGot at h
            rw [hP, hE] at h
            exact Lib.hid h
          have HP2 : Hid (∀ W, wr.grownBy W none → Calls Tryd.prog 16 #[.agg #[.slice oo l.length cc, .int .i64 u, .int .i64 z]] W (fun e w' => ∃ v, e = .returned (.tuple #[v, .int .i64 E]) ∧ Bts w' v P ∧ W.grownBy w' none)) := by
            refine Lib.hid fun W g => ?_
            have h := refPut_any (.slice oo l.length cc) l u z W (HBv.out.keep0 g) (by omega)
            unfold PutGot at h
            rw [hP, hE] at h
            exact h
          have hne2 : (E != E) = false := by simp
          clear hP hE
          go_wp2_with (first
            | (go_at_call 15; (with_reducible refine HP1.out.mono ?_); rintro e w5 ⟨v5, rfl, hv5, g5⟩; have HV5 := Lib.hid hv5; have b5 := bb.keep0 g5; clear hv5 q0 q1 q2; have q0 := b5.cell 0 rfl; have q1 := b5.cell 1 rfl; have q2 := b5.cell 2 rfl)
            | (go_at_call 16; (with_reducible refine (HP2.out _ g5).mono ?_); rintro e w6 ⟨v6, rfl, hv6, g6⟩; have s5 := bts_text (HV5.out.keep0 g6); have s6 := bts_text hv6; have b6 := b5.keep0 g6; clear hv6))
          go_at_call 11
          (with_reducible refine (HR.out _ (gb_trans (gb_trans hg g5) g6)).mono ?_)
          rintro e w7 ⟨v7, rfl, hv7, g7⟩
          have hv7' := hv7
          obtain ⟨o7, c7, rfl, _, _, _, _⟩ := hv7'
          have b7 := b6.keep0 g7
          have hnew : Came2 w w.heap.size l2 t2 a2 (((w7.setCell ⟨w.heap.size, 0, none⟩ (.slice o7 l2.length c7)).setCell ⟨w.heap.size, 1, none⟩ (.int .i64 t2)).setCell ⟨w.heap.size, 2, none⟩ (.int .i64 a2)) :=
            came_fill b7 hv7 (gb_trans (gb_trans (gb_trans hg g5) g6) g7)
          have HNw := Lib.hid hnew
          have q0 := b7.cell 0 rfl
          have q1 := b7.cell 1 rfl
          have q2 := b7.cell 2 rfl
          have q3 := b7.free 0
          have q4 := b7.free 1
          have q5 := b7.free 2
          clear hv7 hnew
          go_wp2
          go_roundw
          case rel => exact ⟨k + 1, by omega, by go_num, l2, t2, a2, by omega, HNw.out⟩
          case measure => simp [intOf]; omega
        · obtain rfl : k = 2 := by omega
          go_wp2_with (go_at_call 14; (with_reducible refine (works_any _ (HM.out.keep0 hg)).mono ?_); rintro e w5 ⟨rfl, g5⟩)
          go_ret
          exact ⟨rfl, gb_trans hg g5⟩
    · have hnb : n = bs.length := by omega
      subst hnb
      have h5' : (bs.length : Int) ≤ 5000 := by omega
      go_wp2_with (at_builtin; go_must (refine list_append_run rfl _ _ 25 rfl _ _ rfl rfl _ _ HAp.out rfl ?_))
      generalize w3.setCell ⟨w.heap.size, 0, none⟩ (.slice o3 bs.length cap3) = w4 at HMd ⊢
      go_loopw [7, 8, 9, 10, 11] (fun v7 _ _ _ _ wr => ∃ k : Nat, k ≤ 2 ∧ v7 = .int .i64 k ∧ ∃ (l : List Bool) (u z : Int), l.length ≤ 5000 ∧ Came2 w w.heap.size l u z wr) (fun v _ _ _ _ _ => 2 - (intOf v).toNat)
      case atStart => exact ⟨0, by omega, rfl, ts, t, a, hts, HMd.out⟩
      case round =>
        obtain ⟨k, hk, rfl, l, u, z, hl, vv, bb, hbv, hg⟩ := hrel
        clear HMd
        have HBv := Lib.hid hbv
        obtain ⟨oo, cc, rfl, _, _, _, _⟩ := hbv
        have q0 := bb.cell 0 rfl
        have q1 := bb.cell 1 rfl
        have q2 := bb.cell 2 rfl
        by_cases hk2 : k < 2
        · obtain ⟨P, hP⟩ : ∃ P, putB l u z = P := ⟨_, rfl⟩
          obtain ⟨E, hE⟩ : ∃ E, putE l u z = E := ⟨_, rfl⟩
          have HP1 : Hid (Calls Tryd.prog 15 #[.agg #[.slice oo l.length cc, .int .i64 u, .int .i64 z]] wr (fun e w' => ∃ v, e = .returned (.tuple #[v, .int .i64 E]) ∧ Bts w' v P ∧ wr.grownBy w' none)) := by
            have h := put_any (.slice oo l.length cc) l u z wr (HM.out.keep0 hg) HBv.out (by omega)
            unfold PutGot at h
            rw [hP, hE] at h
            exact Lib.hid h
          have HP2 : Hid (∀ W, wr.grownBy W none → Calls Tryd.prog 16 #[.agg #[.slice oo l.length cc, .int .i64 u, .int .i64 z]] W (fun e w' => ∃ v, e = .returned (.tuple #[v, .int .i64 E]) ∧ Bts w' v P ∧ W.grownBy w' none)) := by
            refine Lib.hid fun W g => ?_
            have h := refPut_any (.slice oo l.length cc) l u z W (HBv.out.keep0 g) (by omega)
            unfold PutGot at h
            rw [hP, hE] at h
            exact h
          have hne2 : (E != E) = false := by simp
          clear hP hE
          go_wp2_with (first
            | (go_at_call 15; (with_reducible refine HP1.out.mono ?_); rintro e w5 ⟨v5, rfl, hv5, g5⟩; have HV5 := Lib.hid hv5; have b5 := bb.keep0 g5; clear hv5 q0 q1 q2; have q0 := b5.cell 0 rfl; have q1 := b5.cell 1 rfl; have q2 := b5.cell 2 rfl)
            | (go_at_call 16; (with_reducible refine (HP2.out _ g5).mono ?_); rintro e w6 ⟨v6, rfl, hv6, g6⟩; have s5 := bts_text (HV5.out.keep0 g6); have s6 := bts_text hv6; have b6 := b5.keep0 g6; clear hv6))
          go_at_call 11
          (with_reducible refine (HR.out _ (gb_trans (gb_trans hg g5) g6)).mono ?_)
          rintro e w7 ⟨v7, rfl, hv7, g7⟩
          have hv7' := hv7
          obtain ⟨o7, c7, rfl, _, _, _, _⟩ := hv7'
          have b7 := b6.keep0 g7
          have hnew : Came2 w w.heap.size l2 t2 a2 (((w7.setCell ⟨w.heap.size, 0, none⟩ (.slice o7 l2.length c7)).setCell ⟨w.heap.size, 1, none⟩ (.int .i64 t2)).setCell ⟨w.heap.size, 2, none⟩ (.int .i64 a2)) :=
            came_fill b7 hv7 (gb_trans (gb_trans (gb_trans hg g5) g6) g7)
          have HNw := Lib.hid hnew
          have q0 := b7.cell 0 rfl
          have q1 := b7.cell 1 rfl
          have q2 := b7.cell 2 rfl
          have q3 := b7.free 0
          have q4 := b7.free 1
          have q5 := b7.free 2
          clear hv7 hnew
          go_wp2
          go_roundw
          case rel => exact ⟨k + 1, by omega, by go_num, l2, t2, a2, by omega, HNw.out⟩
          case measure => simp [intOf]; omega
        · obtain rfl : k = 2 := by omega
          go_wp2_with (go_at_call 14; (with_reducible refine (works_any _ (HM.out.keep0 hg)).mono ?_); rintro e w5 ⟨rfl, g5⟩)
          go_ret
          exact ⟨rfl, gb_trans hg g5⟩
end Go.Proofs.YtefpnhckplcfgaaDoor
