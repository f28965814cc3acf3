/-
  DiskLasts' walk: for all writes, every place where the power goes, and all choices the statement's function returns true; condition: the table of masks reads as the program lays it.
-/
import Derived.Test.YtcoegaipojnndaaDoorDl5
namespace Go.Proofs.YtcoegaipojnndaaDoor
open Go.RowKit Go.Maps

/-- What stands behind the rounds of writes. -/
def Out (w : World) (p mb : Nat) (wr : World) : Prop := ∃ s L N, N ≤ 100 ∧ Las wr w.heap.size p mb s L ∧ Inv s L N ∧ Below w.heap.size w wr
theorem bts_take' {w : World} {co : Option Addr} {cap : Nat} {cs : List UInt8} (h : Bts w (.slice co cs.length cap) cs) (m : Nat) (hm : m ≤ cs.length) : Bts w (.slice co m cap) (cs.take m) := by
  obtain ⟨ao, c, he, h2, h3, h4, h5⟩ := h
  injection he with e1 _ e3
  subst e1; subst e3
  refine ⟨co, cap, by simp; omega, by simp; omega, by simp [bytesC], fun e => ⟨by have := (h4 e).1; simp; omega, (h4 e).2⟩, ?_⟩
  intro a e j u hj
  refine h5 a e j u ?_
  unfold bytesC at hj ⊢
  rw [List.map_take, List.getElem?_take] at hj
  split at hj
  · exact hj
  · cases hj
theorem bts_below {w w' : World} {v : Value} {cs : List UInt8} (h : Bts w v cs) (hw : Below w.heap.size w w') : Bts w' v cs := by
  obtain ⟨o1, c1', e1, e2, e3, e4, e5⟩ := h
  exact ⟨o1, c1', e1, e2, e3, e4, fun a ea j u hj => (hw.cell (cell_lt (e5 a ea j u hj))).trans (e5 a ea j u hj)⟩
/-- A list's value, as a list of texts. -/
theorem las_list {w : World} {base p mb : Nat} {s : St} {L : Nat → List ByteArray} (h : Las w base p mb s L) {k : Nat} (hk : k < 8) (hne : L k ≠ []) : ∃ g off cap, w.cell? ⟨mb, k, none⟩ = some (.slice (some ⟨g, off, none⟩) (L k).length cap) ∧ Sts w (.slice (some ⟨g, off, none⟩) (L k).length cap) (L k) := by
  obtain ⟨F, vs, _, _, a3, _, a5, _⟩ := h
  rcases a5 k hk with ⟨e, _⟩ | h1
  · exact absurd e hne
  · have hc := a3.cell k (arr8_at vs k hk)
    obtain ⟨g, off, cap, cur, e, h2, h3, h4, h5, h6, h7, h8⟩ := h1
    rw [e] at hc
    refine ⟨g, off, cap, hc, some ⟨g, off, none⟩, cap, rfl, h5, by simp [strsC], (fun e => by cases e), ?_⟩
    intro a ea j u hj
    cases ea
    have hadd : (⟨g, off, none⟩ : Addr).add j = ⟨g, off + j, none⟩ := by unfold Addr.add; split <;> simp_all
    rw [hadd]
    exact cur_cell h3 (h8 j u hj)
/-- What an append to a list makes of it. -/
theorem las_append {w : World} {base p mb : Nat} {s : St} {L : Nat → List ByteArray} (h : Las w base p mb s L) {k : Nat} (hk : k < 8) (hne : L k ≠ []) (hl : (L k).length ≤ 1000) (d : ByteArray) :
    ∃ g off cap o5 n5 c5 w5, w.cell? ⟨mb, k, none⟩ = some (.slice (some ⟨g, off, none⟩) (L k).length cap) ∧ (w.alloc (.cells #[.string d] 9)).cell? ⟨mb, k, none⟩ = some (.slice (some ⟨g, off, none⟩) (L k).length cap) ∧
      (Builtin.append_ #[37, 37] 37 #[.slice (some ⟨g, off, none⟩) (L k).length cap, .slice (some ⟨w.heap.size, 0, none⟩) 1 1]).run Tryd.prog (w.alloc (.cells #[.string d] 9)) = .ok (.slice o5 n5 c5) w5 ∧
      w5.cell? ⟨mb, k, none⟩ = some (.slice (some ⟨g, off, none⟩) (L k).length cap) ∧ w5.frozen? ⟨mb, k, none⟩ = false ∧
      Las (w5.setCell ⟨mb, k, none⟩ (.slice o5 n5 c5)) base p mb s (fun i => if i = k then L k ++ [d] else L i) ∧ Below base w (w5.setCell ⟨mb, k, none⟩ (.slice o5 n5 c5)) := by
  have ga := gb_alloc w (.cells #[.string d] 9) none
  have hb := h.base
  obtain ⟨F, vs, hv⟩ := h
  have hva := hv.keep0 ga
  rcases hva.2.2.2.2.1 k hk with ⟨e, _⟩ | h1
  · exact absurd e hne
  · have hc := hv.2.2.1.cell k (arr8_at vs k hk)
    have hca := hva.2.2.1.cell k (arr8_at vs k hk)
    have hs : (w.alloc (.cells #[.string d] 9)).heap.size = w.heap.size + 1 := by simp
    obtain ⟨v5, w5, hap, h5, g5, hn⟩ := h1.append ⟨w.heap.size, 0, none⟩ d ((Blk.mk w 9 #[.string d]).cell 0 rfl) (by omega) hl
    obtain ⟨hL, hB, c5, f5⟩ := hva.put hk g5 h5 hn
    obtain ⟨g, off, cap, e, _, _⟩ := h1.form
    obtain ⟨g', off', cap', e', _, _⟩ := h5.form
    subst e'
    rw [e] at hc hca hap c5
    exact ⟨g, off, cap, _, _, _, w5, hc, hca, hap, c5, f5, hL, (gb_base ga hb).trans hB⟩
/-- What is left of a list when all came. -/
theorem las_last {w : World} {base p mb : Nat} {s : St} {L : Nat → List ByteArray} (h : Las w base p mb s L) {k : Nat} (hk : k < 8) {d : ByteArray} (hd : (L k).getLast? = some d) :
    ∃ g off cap, w.cell? ⟨mb, k, none⟩ = some (.slice (some ⟨g, off, none⟩) (L k).length cap) ∧ w.frozen? ⟨mb, k, none⟩ = false ∧ 0 < (L k).length ∧ (L k).length ≤ cap ∧
      Las (w.setCell ⟨mb, k, none⟩ (.slice (some ⟨g, off + ((L k).length - 1), none⟩) 1 (cap - ((L k).length - 1)))) base p mb s (fun i => if i = k then [d] else L i) ∧ Below base w (w.setCell ⟨mb, k, none⟩ (.slice (some ⟨g, off + ((L k).length - 1), none⟩) 1 (cap - ((L k).length - 1)))) := by
  obtain ⟨F, vs, hv⟩ := h
  rcases hv.2.2.2.2.1 k hk with ⟨e, _⟩ | h1
  · rw [e] at hd; cases hd
  · have hc := hv.2.2.1.cell k (arr8_at vs k hk)
    obtain ⟨g, off, cap, e, h2, h3⟩ := h1.form
    rw [e] at hc h1
    have h4 := h1.last hd
    obtain ⟨hL, hB, c5, f5⟩ := hv.put hk (gb_refl w _) h4 (fun b hb => by rw [e]; exact .inl hb)
    exact ⟨g, off, cap, hc, f5, h3, h2, hL, hB⟩

set_option maxRecDepth 100000 in
set_option maxHeartbeats 8000000 in
theorem lasts_walk (v vc : Value) (l : List Pu) (f : UInt8) (cs : List UInt8) (w : World) (hm : Masks w) (hP : Pus w v l) (hC : Bts w vc cs) :
    Calls Tryd.prog 5 #[v, .int .u8 (f.toNat : Nat), vc] w (TrueGot w) := by
  have HM := Lib.hid hm
  have hpos := hm.lt
  have hCC := hC
  obtain ⟨ao, cap, rfl, _, _, hln, hlx⟩ := hP
  obtain ⟨co, ccap, rfl, hcl, _, _, _⟩ := hC
  have HLN := Lib.hid hln
  have HLX := Lib.hid hlx
  obtain ⟨M, hMn⟩ : ∃ M : Nat, min cs.length 100 = M := ⟨_, rfl⟩
  have hmi : min (cs.length : Int) 100 = (M : Int) := by omega
  have hM0 : (0 : Int) ≤ (M : Int) := by omega
  have hM1 : (M : Int) ≤ (ccap : Int) := by omega
  have hct : ∀ W, Below w.heap.size w W → Bts W (.slice co M ccap) (cs.take M) := fun W hW => bts_take' (bts_below hCC hW) _ (by omega)
  have HCT := Lib.hid hct
  obtain ⟨z, hz⟩ : ∃ z : Int, (f.toNat : Int) % 64 = z := ⟨_, rfl⟩
  have hzw : IntKind.i64.wrap z = z := IntWalk.i64_in _ (by omega)
  have hzr : z ≤ 9223372036854775807 := by omega
  clear hm hln hlx hct hCC hMn
  go_enter Tryd.func5, Tryd.ntmps5
  go_wp2_with (first
    | (go_at_call 15; (with_reducible refine (works5_any _ HM.out).mono ?_); rintro e w1 ⟨rfl, g1⟩)
    | (go_at_call 13; (refine (dnew_any 64 _ (by omega) (by omega)).mono ?_); rintro e w2 ⟨p, rfl, hP0, g2⟩))
  have hs1 := g1.size
  have hs2 := g2.size
  obtain ⟨mb, hmb⟩ : ∃ mb, w2.heap.size = mb := ⟨_, rfl⟩
  have ga := gb_alloc w2 (.cells #[.slice none 0 0, .slice none 0 0, .slice none 0 0, .slice none 0 0, .slice none 0 0, .slice none 0 0, .slice none 0 0, .slice none 0 0] 60) none
  have hL0 : Las (w2.alloc (.cells #[.slice none 0 0, .slice none 0 0, .slice none 0 0, .slice none 0 0, .slice none 0 0, .slice none 0 0, .slice none 0 0, .slice none 0 0] 60)) w.heap.size p mb (newS 64) (fun i => if i < 0 then [noB] else []) := by
    refine ⟨newF w1 w2, fun _ => .slice none 0 0, ?_, ?_, by rw [← hmb]; exact Blk.mk w2 60 _, by omega, fun i _ => .inl ⟨rfl, rfl⟩, (fun i j _ _ _ b e => by cases e), by simp; omega⟩
    · obtain ⟨vs, vp, bm, D, ⟨a1, a2, a3, a4, a5, a6, a7⟩, hf⟩ := hP0.keep0 ga
      exact ⟨vs, vp, bm, D, ⟨a1, owns_less a2 hs1, owns_less a3 hs1, a4, a5, by omega, by omega⟩, hf⟩
    · intro k hk
      unfold newF at hk
      refine ⟨by omega, by simp; omega, by omega, fun i _ e => by cases e⟩
  have hB0 : Below w.heap.size w (w2.alloc (.cells #[.slice none 0 0, .slice none 0 0, .slice none 0 0, .slice none 0 0, .slice none 0 0, .slice none 0 0, .slice none 0 0, .slice none 0 0] 60)) := gb_below (gb_trans (gb_trans g1 g2) ga)
  rw [hmb]
  have HL0 := Lib.hid (And.intro hL0 hB0)
  clear hL0 hB0 hP0 ga g1 g2 hs1 hs2 hmb
  go_loopw [9] (fun v wr => ∃ k : Nat, k ≤ 8 ∧ v = .int .i64 k ∧ Las wr w.heap.size p mb (newS 64) (fun i => if i < k then [noB] else []) ∧ Below w.heap.size w wr) (fun v _ => 8 - (intOf v).toNat)
  case atStart => exact ⟨0, by omega, rfl, HL0.out.1, HL0.out.2⟩
  case round =>
    clear HL0
    obtain ⟨k, hk, rfl, hT, hB⟩ := hrel
    by_cases hk8 : k < 8
    · have mk := make_sector wr
      have kb := Blk.mk wr 5 (bytesC (rep 256 0)).toArray
      have hcv : (convert 29 9 (.slice (some ⟨wr.heap.size, 0, none⟩) 256 256)).run Tryd.prog (wr.alloc (.cells (bytesC (rep 256 0)).toArray 5)) = .ok (.string noB) (wr.alloc (.cells (bytesC (rep 256 0)).toArray 5)) := by
        have h := run_convert_bytes_back (wr.alloc (.cells (bytesC (rep 256 0)).toArray 5)) 29 9 5 ⟨wr.heap.size, 0, none⟩ 256 (rep 256 0) Tryd.underlying29 Tryd.underlying5 Tryd.underlying9 (fun j hj => by
          rw [add_lit]
          refine kb.cell j ?_
          rw [List.getElem?_toArray, bytes_at hj]
          rw [show (rep 256 0).getD j 0 = (rep 256 0)[j] by rw [List.getD, List.getElem?_eq_getElem hj]; rfl])
        rw [rep_length] at h
        exact h
      have gg := gb_trans (gb_alloc wr (.cells (bytesC (rep 256 0)).toArray 5) none) (gb_alloc (wr.alloc (.cells (bytesC (rep 256 0)).toArray 5)) (.cells #[.string noB] 9) none)
      have hb := hT.base
      have hrow : ORow ((wr.alloc (.cells (bytesC (rep 256 0)).toArray 5)).alloc (.cells #[.string noB] 9)) w.heap.size (.slice (some ⟨wr.heap.size + 1, 0, none⟩) 1 1) [noB] := by
        have hn := heap_alloc_new (wr.alloc (.cells (bytesC (rep 256 0)).toArray 5)) (.cells #[.string noB] 9)
        rw [World.size_alloc] at hn
        refine ⟨wr.heap.size + 1, 0, 1, #[.string noB], rfl, by omega, hn, by simp, by simp, by simp, by unfold maxLen; omega, fun j u hj => by rw [Nat.zero_add]; simpa [strsC] using hj⟩
      obtain ⟨F, vs, hv⟩ := hT
      obtain ⟨hL, hB1, c5, f5⟩ := hv.put hk8 (gb_weak gg _) hrow (fun b e => by cases e; exact .inr (by show wr.heap.size ≤ wr.heap.size + 1; omega))
      have hvk : ∃ ov nv cv, vs k = .slice ov nv cv := by
        rcases hv.2.2.2.2.1 k hk8 with ⟨_, e⟩ | h1
        · exact ⟨_, _, _, e⟩
        · obtain ⟨g, off, cp, e, _⟩ := h1.form; exact ⟨_, _, _, e⟩
      obtain ⟨ov, nv, cv9, hvk⟩ := hvk
      rw [hvk] at c5
      have hfun : (fun i => if i = k then [noB] else if i < k then [noB] else []) = (fun i => if i < k + 1 then [noB] else [] : Nat → List ByteArray) := by
        funext i
        by_cases h1 : i = k
        · simp [h1]
        · by_cases h2 : i < k
          · simp [h1, h2, show i < k + 1 by omega]
          · simp [h1, h2, show ¬ i < k + 1 by omega]
      have hL2 : Las _ w.heap.size p mb (newS 64) (fun i => if i < k + 1 then [noB] else []) := hfun ▸ hL
      have HN := Lib.hid (And.intro hL2 (hB.trans hB1))
      have hk0 : (0 : Int) ≤ (k : Int) := by omega
      have hk1 : (k : Int) < 8 := by omega
      clear hL hL2 hB1 hfun hrow hv kb gg hb hvk
      go_wp2
      go_roundw
      case rel => exact ⟨k + 1, by omega, by go_num, HN.out.1, HN.out.2⟩
      case measure => simp [intOf]; omega
    · obtain rfl : k = 8 := by omega
      have hkd : ¬ ((8 : Int) < 8) := by omega
      obtain ⟨s0, hs0⟩ : ∃ s0, armS (newS 64) z = s0 := ⟨_, rfl⟩
      have hI0 : Inv s0 (fun i => if i < 8 then [noB] else []) 0 := by
        rw [← hs0]
        refine ⟨(newS_ok 64 (by omega)).arms z hzr, by show (List.replicate 64 noB).length = 64; simp, fun i hi => ?_⟩
        simp only [hi, if_true]
        show [noB] = [(List.replicate 64 noB).getD i noS]
        rw [List.getD, List.getElem?_replicate, if_pos (by omega)]; rfl
      go_wp2_with (go_at_call 23; (refine (l_arm hT z s0 hs0).mono ?_); rintro e w3 ⟨rfl, hT3, b3⟩)
      have HL3 := Lib.hid (And.intro hT3 (And.intro hI0 (hB.trans b3)))
      clear hT3 hI0 hT hB b3 hs0
      go_loopw [10] (fun v wr => ∃ i s L, i ≤ 30 ∧ i ≤ l.length ∧ v = .int .i64 (i : Nat) ∧ Las wr w.heap.size p mb s L ∧ Inv s L (3 * i) ∧ Below w.heap.size w wr) (fun v _ => 30 - (intOf v).toNat)
      case atStart => exact ⟨0, s0, _, by omega, by omega, rfl, HL3.out.1, HL3.out.2.1, HL3.out.2.2⟩
      case round =>
        clear HL3
        obtain ⟨i, s, L, hi30, hil, rfl, hT, hI, hB⟩ := hrel
        by_cases hlt : i < l.length
        · have hd1 : decide ((i : Int) < (l.length : Int)) = true := decide_eq_true (by omega)
          by_cases h30 : i < 30
          · have hd2 : decide ((i : Int) < 30) = true := decide_eq_true (by omega)
            cases ao with
            | none => have := (HLN.out rfl).1; omega
            | some y =>
              obtain ⟨⟨sc, lt, bf⟩, hx⟩ : ∃ z, l[i]? = some z := ⟨_, List.getElem?_eq_getElem hlt⟩
              have hcb : ∀ W, Below w.heap.size w W → ∀ j u, (puC1 (sc, lt, bf))[j]? = some u → W.cell? (y.add (i * 3 + j)) = some u := by
                intro W hW j u hj
                have h5 : j < 3 := (List.getElem?_eq_some_iff.1 hj).1
                have := HLX.out y rfl (i * 3 + j) u ((puC_at l i _ hx j h5).trans hj)
                exact (hW.cell (cell_lt this)).trans this
              have hc3 : ∀ W, Below w.heap.size w W → W.cell? (y.add (i * 3)) = some (.int .u8 (sc.toNat : Nat)) ∧ W.cell? ⟨(y.add (i * 3)).block, (y.add (i * 3)).off + 1, none⟩ = some (.int .u8 (lt.toNat : Nat)) ∧ W.cell? ⟨(y.add (i * 3)).block, (y.add (i * 3)).off + 2, none⟩ = some (.bool bf) := by
                intro W hW
                refine ⟨hcb W hW 0 _ rfl, ?_, ?_⟩
                · have := hcb W hW 1 _ rfl; rw [← add_add] at this; exact this
                · have := hcb W hW 2 _ rfl; rw [← add_add] at this; exact this
              obtain ⟨c0, c1, _⟩ := hc3 wr hB
              have HC3 := Lib.hid hc3
              obtain ⟨k, hkk⟩ : ∃ k : Nat, sc.toNat % 8 = k := ⟨_, rfl⟩
              have hk8 : k < 8 := by omega
              have hki : (sc.toNat : Int) % 8 = (k : Int) := by omega
              have hkw : IntKind.i64.wrap (k : Int) = (k : Int) := IntWalk.i64_in _ (by omega)
              obtain ⟨lc, hlc⟩ : ∃ lc : UInt8, lc.toNat = lt.toNat % 240 := ⟨UInt8.ofNat (lt.toNat % 240), by rw [UInt8.toNat_ofNat']; omega⟩
              have hli : (lt.toNat : Int) % 240 = ((lc.toNat : Nat) : Int) := by omega
              have hds : (s5 lc).size = 256 := by rw [s5_size, if_neg (by omega)]
              obtain ⟨d, hdd⟩ : ∃ d, s5 lc = d := ⟨_, rfl⟩
              have sct : ∀ W, Calls Tryd.prog 19 #[.int .u8 ((lc.toNat : Nat) : Int)] W fun e w' => e = .returned (.string d) ∧ W.grownBy w' none := fun W => by
                have := sector5_any _ lc W rfl
                rw [hdd] at this
                exact this
              have HSC := Lib.hid sct
              rw [hdd] at hds
              have hmw := write_may hI.2.1 k hk8 d hds
              have hi0 : (0 : Int) ≤ (i : Int) := by omega
              have hi1 : (i : Int) < (l.length : Int) := by omega
              have hk0 : (0 : Int) ≤ (k : Int) := by omega
              have hk1 : (k : Int) < 8 := by omega
              obtain ⟨s1, hs1⟩ : ∃ s1, writeT s (k : Int) d = s1 := ⟨_, rfl⟩
              clear hcb hc3 sct hdd hlc hkk hx
              by_cases hE : opE s (mayW s (k : Int) d) = 0
              · have hI1 := hI.write k hk8 d hE
                rw [hs1] at hI1
                have hne := hI.ne hk8
                have hll := hI.len hk8
                obtain ⟨E2, hE2⟩ : ∃ E2, opE s1 (hasF s1 (k : Int)) = E2 := ⟨_, rfl⟩
                obtain ⟨s2, hs2⟩ : ∃ s2, opS s1 (hasF s1 (k : Int)) = s2 := ⟨_, rfl⟩
                have hI2 := hI1.op (hasF s1 (k : Int))
                rw [hs2] at hI2
                have hrb := fun h => read_back (s := s) k d hE h
                rw [hs1] at hrb
                have HS := Lib.hid (And.intro hs1 (And.intro hE (And.intro hI (And.intro hI1 (And.intro hE2 (And.intro hs2 (And.intro hI2 hrb)))))))
                have hwr : ∀ W, Las W w.heap.size p mb s L → Calls Tryd.prog 18 #[.pointer (some ⟨p, 0, none⟩), .int .i64 (k : Nat), .string d] W fun e w' => e = .returned (.int .i64 0) ∧ Las w' w.heap.size p mb s1 L ∧ Below w.heap.size W w' := fun W h => l_write h (k : Int) d HS.out.2.2.1.1 (by omega) (by omega) 0 s1 HS.out.2.1 HS.out.1
                have HWR := Lib.hid hwr
                have hla : ∀ W, Las W w.heap.size p mb s1 L → _ := fun W h => las_append h hk8 hne (by omega) d
                have HLA := Lib.hid hla
                clear hs1 hE hI hI1 hE2 hs2 hI2 hrb hwr hla hmw
                by_cases h2 : E2 = 0
                · subst h2
                  have hrd : ∀ W L', Las W w.heap.size p mb s1 L' → Calls Tryd.prog 16 #[.pointer (some ⟨p, 0, none⟩), .int .i64 (k : Nat)] W fun e w' => e = .returned (.tuple #[.string d, .int .i64 0]) ∧ Las w' w.heap.size p mb s2 L' ∧ Below w.heap.size W w' := fun W L' h => l_read h (k : Int) HS.out.2.2.2.1.1 (by omega) (by omega) 0 d s2 HS.out.2.2.2.2.1 (HS.out.2.2.2.2.2.2.2 HS.out.2.2.2.2.1) HS.out.2.2.2.2.2.1
                  have HRD := Lib.hid hrd
                  clear hrd
                  cases bf with
                  | false =>
                    go_wp2_with (first
                      | (go_at_call 19; (refine (HSC.out _).mono ?_); rintro e w5 ⟨rfl, g5⟩; have hT5 := hT.keep0 g5; have b5 := gb_base g5 hT.base)
                      | (go_at_call 18; (refine (HWR.out _ hT5).mono ?_); rintro e w6 ⟨rfl, hT6, b6⟩; obtain ⟨g, off, cp, o5, n5, c5, w7, x0, x1, hap, x2, x3, hT7, b7⟩ := HLA.out w6 hT6; have HA := Lib.hid hap; clear hap)
                      | (at_builtin; go_must (refine list_append_run rfl _ _ 37 rfl _ _ rfl rfl _ _ HA.out rfl ?_))
                      | (go_at_call 16; (refine (HRD.out _ _ hT7).mono ?_); rintro e w9 ⟨rfl, hT9, b9⟩; have hB9 := (((hB.trans b5).trans b6).trans b7).trans b9; obtain ⟨_, _, y2⟩ := HC3.out w9 hB9))
                    go_roundw
                    case rel => exact ⟨i + 1, s2, _, by omega, by omega, by go_num, hT9, HS.out.2.2.2.2.2.2.1.more (by omega), hB9⟩
                    case measure => simp [intOf]; omega
                  | true =>
                    obtain ⟨s3, hs3⟩ : ∃ s3, barS s2 = s3 := ⟨_, rfl⟩
                    by_cases h3 : opE s2 true = 0
                    · have hbr : ∀ W L', Las W w.heap.size p mb s2 L' → Calls Tryd.prog 21 #[.pointer (some ⟨p, 0, none⟩)] W fun e w' => e = .returned (.int .i64 0) ∧ Las w' w.heap.size p mb s3 L' ∧ Below w.heap.size W w' := fun W L' h => l_barrier h HS.out.2.2.2.2.2.2.1.1 (by omega) 0 s3 h3 hs3
                      have HBR := Lib.hid hbr
                      obtain ⟨hI3, hlast⟩ := HS.out.2.2.2.2.2.2.1.bar h3
                      rw [hs3] at hI3 hlast
                      have H3 := Lib.hid (And.intro hI3 hlast)
                      clear hbr hI3 hlast h3 hs3
                      go_wp2_with (first
                        | (go_at_call 19; (refine (HSC.out _).mono ?_); rintro e w5 ⟨rfl, g5⟩; have hT5 := hT.keep0 g5; have b5 := gb_base g5 hT.base)
                        | (go_at_call 18; (refine (HWR.out _ hT5).mono ?_); rintro e w6 ⟨rfl, hT6, b6⟩; obtain ⟨g, off, cp, o5, n5, c5, w7, x0, x1, hap, x2, x3, hT7, b7⟩ := HLA.out w6 hT6; have HA := Lib.hid hap; clear hap)
                        | (at_builtin; go_must (refine list_append_run rfl _ _ 37 rfl _ _ rfl rfl _ _ HA.out rfl ?_))
                        | (go_at_call 16; (refine (HRD.out _ _ hT7).mono ?_); rintro e w9 ⟨rfl, hT9, b9⟩; have hB9 := (((hB.trans b5).trans b6).trans b7).trans b9; obtain ⟨_, _, y2⟩ := HC3.out w9 hB9)
                        | (go_at_call 21; (refine (HBR.out _ _ hT9).mono ?_); rintro e w10 ⟨rfl, hT10, b10⟩; have hB10 := hB9.trans b10))
                      have HL4 := Lib.hid (And.intro hT10 hB10)
                      clear hT10 hB10 hT hB hT9 hB9
                      go_loopw [15] (fun v15 wz => ∃ j : Nat, j ≤ 8 ∧ v15 = .int .i64 j ∧ Las wz w.heap.size p mb s3 (fun i => if i < j then [s3.secs.getD i noS] else if i = k then L k ++ [d] else L i) ∧ Below w.heap.size w wz) (fun v _ => 8 - (intOf v).toNat)
                      case atStart => exact ⟨0, by omega, rfl, HL4.out.1, HL4.out.2⟩
                      case round =>
                        clear HL4
                        obtain ⟨j, hj, rfl, hT, hB⟩ := hrel
                        by_cases hj8 : j < 8
                        · have hd9 := H3.out.2 j hj8
                          obtain ⟨g, off, cp, q0, q1, q2, q3, hL9, hB8⟩ := las_last hT hj8 (d := s3.secs.getD j noS) (by simp only [Nat.lt_irrefl, if_false]; exact hd9)
                          simp only [Nat.lt_irrefl, if_false] at q0 q1 q2 q3 hL9 hB8
                          have hq0 : wr.cell? ⟨mb, j, none⟩ = some (.slice (some ⟨g, off, none⟩) (if j = k then L k ++ [d] else L j).length cp) := q0
                          have hfun : (fun i => if i = j then [s3.secs.getD j noS] else if i < j then [s3.secs.getD i noS] else if i = k then L k ++ [d] else L i) = (fun i => if i < j + 1 then [s3.secs.getD i noS] else if i = k then L k ++ [d] else L i : Nat → List ByteArray) := by
                            funext i
                            by_cases h1 : i = j
                            · simp [h1]
                            · by_cases h2 : i < j
                              · simp [h1, h2, show i < j + 1 by omega]
                              · simp [h1, h2, show ¬ i < j + 1 by omega]
                          rw [hfun] at hL9
                          obtain ⟨n, hn⟩ : ∃ n, (if j = k then L k ++ [d] else L j).length = n := ⟨_, rfl⟩
                          rw [hn] at q2 q3 hL9 hB8 hq0
                          have HN := Lib.hid (And.intro (hL9.keep0 (gb_drew _ none)) ((hB.trans hB8).trans (gb_base (gb_drew _ none) hL9.base)))
                          have hj0 : (0 : Int) ≤ (j : Int) := by omega
                          have hj1 : (j : Int) < 8 := by omega
                          obtain ⟨m, rfl⟩ : ∃ m, n = m + 1 := ⟨n - 1, by omega⟩
                          have hlm : m ≤ 1000 := by
                            have h5 := HS.out.2.2.2.1.len (k := j) hj8
                            have h6 : (if j = k then L k ++ [d] else L j).length ≤ 3 * i + 1 + 1 := h5
                            omega
                          have hw9 : IntKind.i64.wrap (((m + 1 : Nat) : Int) - 1) = (m : Int) := by rw [show (((m + 1 : Nat) : Int) - 1) = (m : Int) by omega]; exact IntWalk.i64_in _ (by omega)
                          have hm0 : (0 : Int) ≤ (m : Int) := by omega
                          have hcm : ¬ (cp = m) := by omega
                          clear hL9 hB8 hfun q0 hd9 hn
                          go_wp2
                          go_region
                          all_goals go_wp2
                          all_goals
                            go_roundw
                            case rel => exact ⟨j + 1, by omega, by go_num, HN.out.1, HN.out.2⟩
                            case measure => simp [intOf]; omega
                        · obtain rfl : j = 8 := by omega
                          have hj9 : ¬ ((8 : Int) < 8) := by omega
                          have hI4 : Inv s3 (fun i => if i < 8 then [s3.secs.getD i noS] else if i = k then L k ++ [d] else L i) (3 * (i + 1)) :=
                            Inv.more ⟨H3.out.1.1, H3.out.1.2.1, fun q hq => by simp only [hq, if_true]; exact H3.out.1.2.2 q hq⟩ (by omega)
                          have HI4 := Lib.hid hI4
                          clear hI4
                          go_wp2
                          go_roundw
                          case rel => exact ⟨i + 1, s3, _, by omega, by omega, by go_num, hT, HI4.out, hB⟩
                          case measure => simp [intOf]; omega
                    · have hbr : ∀ W L', Las W w.heap.size p mb s2 L' → Calls Tryd.prog 21 #[.pointer (some ⟨p, 0, none⟩)] W fun e w' => e = .returned (.int .i64 (opE s2 true)) ∧ Las w' w.heap.size p mb s3 L' ∧ Below w.heap.size W w' := fun W L' h => l_barrier h HS.out.2.2.2.2.2.2.1.1 (by omega) (opE s2 true) s3 rfl hs3
                      have HBR := Lib.hid hbr
                      have hI3 := HS.out.2.2.2.2.2.2.1.barNo h3
                      rw [hs3] at hI3
                      have HI3 := Lib.hid hI3
                      obtain ⟨E3, hE3⟩ : ∃ E3, opE s2 true = E3 := ⟨_, rfl⟩
                      rw [hE3] at h3 HBR
                      have hbe : (E3 != 0) = true := by simp [h3]
                      clear hbr hI3 h3 hs3 hE3
                      go_wp2_with (first
                        | (go_at_call 19; (refine (HSC.out _).mono ?_); rintro e w5 ⟨rfl, g5⟩; have hT5 := hT.keep0 g5; have b5 := gb_base g5 hT.base)
                        | (go_at_call 18; (refine (HWR.out _ hT5).mono ?_); rintro e w6 ⟨rfl, hT6, b6⟩; obtain ⟨g, off, cp, o5, n5, c5, w7, x0, x1, hap, x2, x3, hT7, b7⟩ := HLA.out w6 hT6; have HA := Lib.hid hap; clear hap)
                        | (at_builtin; go_must (refine list_append_run rfl _ _ 37 rfl _ _ rfl rfl _ _ HA.out rfl ?_))
                        | (go_at_call 16; (refine (HRD.out _ _ hT7).mono ?_); rintro e w9 ⟨rfl, hT9, b9⟩; have hB9 := (((hB.trans b5).trans b6).trans b7).trans b9; obtain ⟨_, _, y2⟩ := HC3.out w9 hB9)
                        | (go_at_call 21; (refine (HBR.out _ _ hT9).mono ?_); rintro e w10 ⟨rfl, hT10, b10⟩; have hB10 := hB9.trans b10; have HOut := Lib.hid (show Out w p mb w10 from ⟨s3, _, _, by omega, hT10, HI3.out, hB10⟩); obtain ⟨s, L, N, hN, hT, hI, hB⟩ := HOut.out; obtain ⟨hq, hok, hsl, TA, hTA, hmix⟩ := hI.boot (cs.take M); have hI1 := hI.1; have hIl := fun k hk => hI.len (k := k) hk; have hIs := fun k hk => hI.size (k := k) hk; have hIn := fun k hk => hI.ne (k := k) hk; obtain ⟨t, ht⟩ : ∃ t, bootS s (cs.take M) = t := ⟨_, rfl⟩; rw [ht] at hq hok hsl hmix; have HP := Lib.hid (And.intro ht (And.intro hI1 (And.intro hok hsl))); have HMX := Lib.hid (And.intro hTA hmix); have HIL := Lib.hid (And.intro hIl (And.intro hIs hIn)); clear ht hI hI1 hok hsl hTA hmix hIl hIs hIn)
                        | (go_at_call 25; (refine (l_boot hT _ (cs.take M) HP.out.2.1 (by omega) (HM.out.below hB hpos) (HCT.out _ hB) t HP.out.1).mono ?_); rintro e w1 ⟨rfl, hT1, b1⟩)
                        | (go_at_call 27; (refine (l_off hT1 false hq.1).mono ?_); rintro e w2 ⟨rfl, rfl⟩)
                        | (go_at_call 29; (refine (l_pending hT1 0 (by rw [hq.2.2]; rfl)).mono ?_); rintro e w2 ⟨rfl, rfl⟩))
                      have HT1 := Lib.hid (And.intro hT1 (hB.trans b1))
                      clear hT hT1 hB b1
                      go_loopw [16, 17] (fun v16 v17 wz => ∃ k q s2, k ≤ 8 ∧ v17 = .int .i64 (k : Nat) ∧ v16 = .int .i64 (q : Nat) ∧ q ≤ 1 ∧ (q = 1 → ∃ j, j < k ∧ TA j) ∧ Las wz w.heap.size p mb s2 L ∧ s2.Ok (N + k) ∧ Quiet' s2 ∧ s2.secs = t.secs ∧ Below w.heap.size w wz) (fun _ v _ => 8 - (intOf v).toNat)
                      case atStart => exact ⟨0, 0, t, by omega, rfl, rfl, by omega, fun h => by omega, HT1.out.1, HP.out.2.2.1, hq, rfl, HT1.out.2⟩
                      case round =>
                        clear HT1
                        obtain ⟨k, q, s2, hk, rfl, rfl, hq1, hqj, hT, hok2, hq2, hse, hB⟩ := hrel
                        have HQJ := Lib.hid hqj
                        clear hqj
                        by_cases hk8 : k < 8
                        · have hml : k < s2.secs.length := by rw [hse, HP.out.2.2.2]; omega
                          obtain ⟨hE, hS⟩ := hq2.read hml
                          rw [hse] at hS
                          obtain ⟨S0, hS0⟩ : ∃ S0, t.secs.getD k noS = S0 := ⟨_, rfl⟩
                          rw [hS0] at hS
                          have hmx := HMX.out.2 k hk8
                          rw [hS0] at hmx
                          obtain ⟨s3, hs3⟩ : ∃ s3, opS s2 (hasF s2 (k : Int)) = s3 := ⟨_, rfl⟩
                          have hok3 := hok2.op (hasF s2 (k : Int))
                          have hq3 := hq2.op (hasF s2 (k : Int))
                          have hse3 := (opS_secs s2 (hasF s2 (k : Int))).1
                          rw [hs3] at hok3 hq3 hse3
                          have HQ := Lib.hid (And.intro hE (And.intro hS (And.intro hs3 (And.intro hok2 (And.intro hok3 (And.intro hq3 (hse3.trans hse)))))))
                          have hszz : S0.size = 256 := hmx.1
                          have HMK := Lib.hid hmx.2
                          have hk0 : (0 : Int) ≤ (k : Int) := by omega
                          have hk1 : (k : Int) < 8 := by omega
                          have hkd : decide ((k : Int) < 8) = true := decide_eq_true hk1
                          clear hE hS hs3 hok2 hok3 hq3 hse3 hse hq2 hml hS0 hmx
                          have mx : ∀ W g off cap, Sts W (.slice (some ⟨g, off, none⟩) (L k).length cap) (L k) → Calls Tryd.prog 31 #[.string S0, .slice (some ⟨g, off, none⟩) (L k).length cap] W (MixGot W S0 (L k)) := fun W g off cap h => mixed_any _ S0 (L k) W h hszz (HIL.out.2.1 k hk8) (by have := HIL.out.1 k hk8; omega)
                          have HMXD := Lib.hid mx
                          clear mx
                          cases hw : hasM S0 (L k) with
                          | true =>
                            have HW := Lib.hid hw
                            clear hw
                            go_wp2_with (first
                              | (go_at_call 16; (refine (l_read hT (k : Int) HQ.out.2.2.2.1 (by omega) (by omega) 0 S0 s3 HQ.out.1 HQ.out.2.1 HQ.out.2.2.1).mono ?_); rintro e w3 ⟨rfl, hT3, b3⟩; obtain ⟨g, off, cap9, c9, hst9⟩ := las_list hT3 hk8 (HIL.out.2.2 k hk8); have HST := Lib.hid hst9; clear hst9)
                              | (go_at_call 31; (refine (HMXD.out _ g off cap9 HST.out).mono ?_); rintro e w4 ⟨T, rfl, hT4, g4⟩; rw [HW.out]; have HT4 := Lib.hid hT4; clear hT4; have hT5 := hT3.keep0 g4; have hB5 := (hB.trans b3).trans (gb_base g4 hT3.base)))
                            go_roundw
                            case rel => exact ⟨k + 1, q, s3, by omega, by go_num, rfl, hq1, fun e => by obtain ⟨j, h1, h2⟩ := HQJ.out e; exact ⟨j, by omega, h2⟩, hT5, HQ.out.2.2.2.2.1, HQ.out.2.2.2.2.2.1, HQ.out.2.2.2.2.2.2, hB5⟩
                            case measure => simp [intOf]; omega
                          | false =>
                            have hnot : S0 ∉ L k := fun e => by rw [(hasM_iff S0 (L k)).2 e] at hw; cases hw
                            have hpt : Parted (L k) S0 ∧ TA k := by rcases HMK.out with h | h; exact absurd h hnot; exact h
                            have hq0 : q = 0 := by
                              rcases Nat.lt_or_ge 0 q with h | h
                              · obtain ⟨j, h1, h2⟩ := HQJ.out (by omega)
                                have := HMX.out.1 j k h2 hpt.2
                                omega
                              · omega
                            subst hq0
                            have HW := Lib.hid (And.intro hw (And.intro hnot hpt))
                            clear hw hnot hpt
                            go_wp2_with (first
                              | (go_at_call 16; (refine (l_read hT (k : Int) HQ.out.2.2.2.1 (by omega) (by omega) 0 S0 s3 HQ.out.1 HQ.out.2.1 HQ.out.2.2.1).mono ?_); rintro e w3 ⟨rfl, hT3, b3⟩; obtain ⟨g, off, cap9, c9, hst9⟩ := las_list hT3 hk8 (HIL.out.2.2 k hk8); have HST := Lib.hid hst9; clear hst9)
                              | (go_at_call 31; (refine (HMXD.out _ g off cap9 HST.out).mono ?_); rintro e w4 ⟨T, rfl, hT4, g4⟩; obtain rfl := hT4 HW.out.2.1 HW.out.2.2.1; rw [HW.out.1]; have hT5 := hT3.keep0 g4; have hB5 := (hB.trans b3).trans (gb_base g4 hT3.base)))
                            go_roundw
                            case rel => exact ⟨k + 1, 1, s3, by omega, by go_num, rfl, by omega, fun _ => ⟨k, by omega, HW.out.2.2.2⟩, hT5, HQ.out.2.2.2.2.1, HQ.out.2.2.2.2.2.1, HQ.out.2.2.2.2.2.2, hB5⟩
                            case measure => simp [intOf]; omega
                        · obtain rfl : k = 8 := by omega
                          have hqd : decide ((q : Int) ≤ 1) = true := decide_eq_true (by omega)
                          go_wp2
                          go_ret
                          exact ⟨rfl, gb_of_below hB⟩
                · have hrd : ∀ W L', Las W w.heap.size p mb s1 L' → Calls Tryd.prog 16 #[.pointer (some ⟨p, 0, none⟩), .int .i64 (k : Nat)] W fun e w' => e = .returned (.tuple #[.string (readS s1 (k : Int)), .int .i64 E2]) ∧ Las w' w.heap.size p mb s2 L' ∧ Below w.heap.size W w' := fun W L' h => l_read h (k : Int) HS.out.2.2.2.1.1 (by omega) (by omega) E2 _ s2 HS.out.2.2.2.2.1 rfl HS.out.2.2.2.2.2.1
                  have HRD := Lib.hid hrd
                  have hbe : (E2 != 0) = true := by simp [h2]
                  clear hrd h2
                  go_wp2_with (first
                    | (go_at_call 19; (refine (HSC.out _).mono ?_); rintro e w5 ⟨rfl, g5⟩; have hT5 := hT.keep0 g5; have b5 := gb_base g5 hT.base)
                    | (go_at_call 18; (refine (HWR.out _ hT5).mono ?_); rintro e w6 ⟨rfl, hT6, b6⟩; obtain ⟨g, off, cp, o5, n5, c5, w7, x0, x1, hap, x2, x3, hT7, b7⟩ := HLA.out w6 hT6; have HA := Lib.hid hap; clear hap)
                    | (at_builtin; go_must (refine list_append_run rfl _ _ 37 rfl _ _ rfl rfl _ _ HA.out rfl ?_))
                    | (go_at_call 16; (refine (HRD.out _ _ hT7).mono ?_); rintro e w9 ⟨rfl, hT9, b9⟩; have hB9 := (((hB.trans b5).trans b6).trans b7).trans b9; obtain ⟨_, _, y2⟩ := HC3.out w9 hB9; have HOut := Lib.hid (show Out w p mb w9 from ⟨s2, _, _, by omega, hT9, HS.out.2.2.2.2.2.2.1, hB9⟩); obtain ⟨s, L, N, hN, hT, hI, hB⟩ := HOut.out; obtain ⟨hq, hok, hsl, TA, hTA, hmix⟩ := hI.boot (cs.take M); have hI1 := hI.1; have hIl := fun k hk => hI.len (k := k) hk; have hIs := fun k hk => hI.size (k := k) hk; have hIn := fun k hk => hI.ne (k := k) hk; obtain ⟨t, ht⟩ : ∃ t, bootS s (cs.take M) = t := ⟨_, rfl⟩; rw [ht] at hq hok hsl hmix; have HP := Lib.hid (And.intro ht (And.intro hI1 (And.intro hok hsl))); have HMX := Lib.hid (And.intro hTA hmix); have HIL := Lib.hid (And.intro hIl (And.intro hIs hIn)); clear ht hI hI1 hok hsl hTA hmix hIl hIs hIn)
                    | (go_at_call 25; (refine (l_boot hT _ (cs.take M) HP.out.2.1 (by omega) (HM.out.below hB hpos) (HCT.out _ hB) t HP.out.1).mono ?_); rintro e w1 ⟨rfl, hT1, b1⟩)
                    | (go_at_call 27; (refine (l_off hT1 false hq.1).mono ?_); rintro e w2 ⟨rfl, rfl⟩)
                    | (go_at_call 29; (refine (l_pending hT1 0 (by rw [hq.2.2]; rfl)).mono ?_); rintro e w2 ⟨rfl, rfl⟩))
                  have HT1 := Lib.hid (And.intro hT1 (hB.trans b1))
                  clear hT hT1 hB b1
                  go_loopw [16, 17] (fun v16 v17 wz => ∃ k q s2, k ≤ 8 ∧ v17 = .int .i64 (k : Nat) ∧ v16 = .int .i64 (q : Nat) ∧ q ≤ 1 ∧ (q = 1 → ∃ j, j < k ∧ TA j) ∧ Las wz w.heap.size p mb s2 L ∧ s2.Ok (N + k) ∧ Quiet' s2 ∧ s2.secs = t.secs ∧ Below w.heap.size w wz) (fun _ v _ => 8 - (intOf v).toNat)
                  case atStart => exact ⟨0, 0, t, by omega, rfl, rfl, by omega, fun h => by omega, HT1.out.1, HP.out.2.2.1, hq, rfl, HT1.out.2⟩
                  case round =>
                    clear HT1
                    obtain ⟨k, q, s2, hk, rfl, rfl, hq1, hqj, hT, hok2, hq2, hse, hB⟩ := hrel
                    have HQJ := Lib.hid hqj
                    clear hqj
                    by_cases hk8 : k < 8
                    · have hml : k < s2.secs.length := by rw [hse, HP.out.2.2.2]; omega
                      obtain ⟨hE, hS⟩ := hq2.read hml
                      rw [hse] at hS
                      obtain ⟨S0, hS0⟩ : ∃ S0, t.secs.getD k noS = S0 := ⟨_, rfl⟩
                      rw [hS0] at hS
                      have hmx := HMX.out.2 k hk8
                      rw [hS0] at hmx
                      obtain ⟨s3, hs3⟩ : ∃ s3, opS s2 (hasF s2 (k : Int)) = s3 := ⟨_, rfl⟩
                      have hok3 := hok2.op (hasF s2 (k : Int))
                      have hq3 := hq2.op (hasF s2 (k : Int))
                      have hse3 := (opS_secs s2 (hasF s2 (k : Int))).1
                      rw [hs3] at hok3 hq3 hse3
                      have HQ := Lib.hid (And.intro hE (And.intro hS (And.intro hs3 (And.intro hok2 (And.intro hok3 (And.intro hq3 (hse3.trans hse)))))))
                      have hszz : S0.size = 256 := hmx.1
                      have HMK := Lib.hid hmx.2
                      have hk0 : (0 : Int) ≤ (k : Int) := by omega
                      have hk1 : (k : Int) < 8 := by omega
                      have hkd : decide ((k : Int) < 8) = true := decide_eq_true hk1
                      clear hE hS hs3 hok2 hok3 hq3 hse3 hse hq2 hml hS0 hmx
                      have mx : ∀ W g off cap, Sts W (.slice (some ⟨g, off, none⟩) (L k).length cap) (L k) → Calls Tryd.prog 31 #[.string S0, .slice (some ⟨g, off, none⟩) (L k).length cap] W (MixGot W S0 (L k)) := fun W g off cap h => mixed_any _ S0 (L k) W h hszz (HIL.out.2.1 k hk8) (by have := HIL.out.1 k hk8; omega)
                      have HMXD := Lib.hid mx
                      clear mx
                      cases hw : hasM S0 (L k) with
                      | true =>
                        have HW := Lib.hid hw
                        clear hw
                        go_wp2_with (first
                          | (go_at_call 16; (refine (l_read hT (k : Int) HQ.out.2.2.2.1 (by omega) (by omega) 0 S0 s3 HQ.out.1 HQ.out.2.1 HQ.out.2.2.1).mono ?_); rintro e w3 ⟨rfl, hT3, b3⟩; obtain ⟨g, off, cap9, c9, hst9⟩ := las_list hT3 hk8 (HIL.out.2.2 k hk8); have HST := Lib.hid hst9; clear hst9)
                          | (go_at_call 31; (refine (HMXD.out _ g off cap9 HST.out).mono ?_); rintro e w4 ⟨T, rfl, hT4, g4⟩; rw [HW.out]; have HT4 := Lib.hid hT4; clear hT4; have hT5 := hT3.keep0 g4; have hB5 := (hB.trans b3).trans (gb_base g4 hT3.base)))
                        go_roundw
                        case rel => exact ⟨k + 1, q, s3, by omega, by go_num, rfl, hq1, fun e => by obtain ⟨j, h1, h2⟩ := HQJ.out e; exact ⟨j, by omega, h2⟩, hT5, HQ.out.2.2.2.2.1, HQ.out.2.2.2.2.2.1, HQ.out.2.2.2.2.2.2, hB5⟩
                        case measure => simp [intOf]; omega
                      | false =>
                        have hnot : S0 ∉ L k := fun e => by rw [(hasM_iff S0 (L k)).2 e] at hw; cases hw
                        have hpt : Parted (L k) S0 ∧ TA k := by rcases HMK.out with h | h; exact absurd h hnot; exact h
                        have hq0 : q = 0 := by
                          rcases Nat.lt_or_ge 0 q with h | h
                          · obtain ⟨j, h1, h2⟩ := HQJ.out (by omega)
                            have := HMX.out.1 j k h2 hpt.2
                            omega
                          · omega
                        subst hq0
                        have HW := Lib.hid (And.intro hw (And.intro hnot hpt))
                        clear hw hnot hpt
                        go_wp2_with (first
                          | (go_at_call 16; (refine (l_read hT (k : Int) HQ.out.2.2.2.1 (by omega) (by omega) 0 S0 s3 HQ.out.1 HQ.out.2.1 HQ.out.2.2.1).mono ?_); rintro e w3 ⟨rfl, hT3, b3⟩; obtain ⟨g, off, cap9, c9, hst9⟩ := las_list hT3 hk8 (HIL.out.2.2 k hk8); have HST := Lib.hid hst9; clear hst9)
                          | (go_at_call 31; (refine (HMXD.out _ g off cap9 HST.out).mono ?_); rintro e w4 ⟨T, rfl, hT4, g4⟩; obtain rfl := hT4 HW.out.2.1 HW.out.2.2.1; rw [HW.out.1]; have hT5 := hT3.keep0 g4; have hB5 := (hB.trans b3).trans (gb_base g4 hT3.base)))
                        go_roundw
                        case rel => exact ⟨k + 1, 1, s3, by omega, by go_num, rfl, by omega, fun _ => ⟨k, by omega, HW.out.2.2.2⟩, hT5, HQ.out.2.2.2.2.1, HQ.out.2.2.2.2.2.1, HQ.out.2.2.2.2.2.2, hB5⟩
                        case measure => simp [intOf]; omega
                    · obtain rfl : k = 8 := by omega
                      have hqd : decide ((q : Int) ≤ 1) = true := decide_eq_true (by omega)
                      go_wp2
                      go_ret
                      exact ⟨rfl, gb_of_below hB⟩
              · have hI1 := hI.fail (k : Int) d hE
                rw [hs1] at hI1
                obtain ⟨E, hEE⟩ : ∃ E, opE s (mayW s (k : Int) d) = E := ⟨_, rfl⟩
                rw [hEE] at hE
                have hbe : (E != 0) = true := by simp [hE]
                have HS := Lib.hid (And.intro hs1 (And.intro hEE (And.intro hI hI1)))
                have hwr : ∀ W, Las W w.heap.size p mb s L → Calls Tryd.prog 18 #[.pointer (some ⟨p, 0, none⟩), .int .i64 (k : Nat), .string d] W fun e w' => e = .returned (.int .i64 E) ∧ Las w' w.heap.size p mb s1 L ∧ Below w.heap.size W w' := fun W h => l_write h (k : Int) d HS.out.2.2.1.1 (by omega) (by omega) E s1 HS.out.2.1 HS.out.1
                have HWR := Lib.hid hwr
                clear hs1 hE hI hI1 hEE hwr hmw
                go_wp2_with (first
                  | (go_at_call 19; (refine (HSC.out _).mono ?_); rintro e w5 ⟨rfl, g5⟩; have hT5 := hT.keep0 g5; have b5 := gb_base g5 hT.base)
                  | (go_at_call 18; (refine (HWR.out _ hT5).mono ?_); rintro e w6 ⟨rfl, hT6, b6⟩; have HOut := Lib.hid (show Out w p mb w6 from ⟨s1, _, _, by omega, hT6, HS.out.2.2.2, (hB.trans b5).trans b6⟩); obtain ⟨s, L, N, hN, hT, hI, hB⟩ := HOut.out; obtain ⟨hq, hok, hsl, TA, hTA, hmix⟩ := hI.boot (cs.take M); have hI1 := hI.1; have hIl := fun k hk => hI.len (k := k) hk; have hIs := fun k hk => hI.size (k := k) hk; have hIn := fun k hk => hI.ne (k := k) hk; obtain ⟨t, ht⟩ : ∃ t, bootS s (cs.take M) = t := ⟨_, rfl⟩; rw [ht] at hq hok hsl hmix; have HP := Lib.hid (And.intro ht (And.intro hI1 (And.intro hok hsl))); have HMX := Lib.hid (And.intro hTA hmix); have HIL := Lib.hid (And.intro hIl (And.intro hIs hIn)); clear ht hI hI1 hok hsl hTA hmix hIl hIs hIn)
                  | (go_at_call 25; (refine (l_boot hT _ (cs.take M) HP.out.2.1 (by omega) (HM.out.below hB hpos) (HCT.out _ hB) t HP.out.1).mono ?_); rintro e w1 ⟨rfl, hT1, b1⟩)
                  | (go_at_call 27; (refine (l_off hT1 false hq.1).mono ?_); rintro e w2 ⟨rfl, rfl⟩)
                  | (go_at_call 29; (refine (l_pending hT1 0 (by rw [hq.2.2]; rfl)).mono ?_); rintro e w2 ⟨rfl, rfl⟩))
                have HT1 := Lib.hid (And.intro hT1 (hB.trans b1))
                clear hT hT1 hB b1
                go_loopw [16, 17] (fun v16 v17 wz => ∃ k q s2, k ≤ 8 ∧ v17 = .int .i64 (k : Nat) ∧ v16 = .int .i64 (q : Nat) ∧ q ≤ 1 ∧ (q = 1 → ∃ j, j < k ∧ TA j) ∧ Las wz w.heap.size p mb s2 L ∧ s2.Ok (N + k) ∧ Quiet' s2 ∧ s2.secs = t.secs ∧ Below w.heap.size w wz) (fun _ v _ => 8 - (intOf v).toNat)
                case atStart => exact ⟨0, 0, t, by omega, rfl, rfl, by omega, fun h => by omega, HT1.out.1, HP.out.2.2.1, hq, rfl, HT1.out.2⟩
                case round =>
                  clear HT1
                  obtain ⟨k, q, s2, hk, rfl, rfl, hq1, hqj, hT, hok2, hq2, hse, hB⟩ := hrel
                  have HQJ := Lib.hid hqj
                  clear hqj
                  by_cases hk8 : k < 8
                  · have hml : k < s2.secs.length := by rw [hse, HP.out.2.2.2]; omega
                    obtain ⟨hE, hS⟩ := hq2.read hml
                    rw [hse] at hS
                    obtain ⟨S0, hS0⟩ : ∃ S0, t.secs.getD k noS = S0 := ⟨_, rfl⟩
                    rw [hS0] at hS
                    have hmx := HMX.out.2 k hk8
                    rw [hS0] at hmx
                    obtain ⟨s3, hs3⟩ : ∃ s3, opS s2 (hasF s2 (k : Int)) = s3 := ⟨_, rfl⟩
                    have hok3 := hok2.op (hasF s2 (k : Int))
                    have hq3 := hq2.op (hasF s2 (k : Int))
                    have hse3 := (opS_secs s2 (hasF s2 (k : Int))).1
                    rw [hs3] at hok3 hq3 hse3
                    have HQ := Lib.hid (And.intro hE (And.intro hS (And.intro hs3 (And.intro hok2 (And.intro hok3 (And.intro hq3 (hse3.trans hse)))))))
                    have hszz : S0.size = 256 := hmx.1
                    have HMK := Lib.hid hmx.2
                    have hk0 : (0 : Int) ≤ (k : Int) := by omega
                    have hk1 : (k : Int) < 8 := by omega
                    have hkd : decide ((k : Int) < 8) = true := decide_eq_true hk1
                    clear hE hS hs3 hok2 hok3 hq3 hse3 hse hq2 hml hS0 hmx
                    have mx : ∀ W g off cap, Sts W (.slice (some ⟨g, off, none⟩) (L k).length cap) (L k) → Calls Tryd.prog 31 #[.string S0, .slice (some ⟨g, off, none⟩) (L k).length cap] W (MixGot W S0 (L k)) := fun W g off cap h => mixed_any _ S0 (L k) W h hszz (HIL.out.2.1 k hk8) (by have := HIL.out.1 k hk8; omega)
                    have HMXD := Lib.hid mx
                    clear mx
                    cases hw : hasM S0 (L k) with
                    | true =>
                      have HW := Lib.hid hw
                      clear hw
                      go_wp2_with (first
                        | (go_at_call 16; (refine (l_read hT (k : Int) HQ.out.2.2.2.1 (by omega) (by omega) 0 S0 s3 HQ.out.1 HQ.out.2.1 HQ.out.2.2.1).mono ?_); rintro e w3 ⟨rfl, hT3, b3⟩; obtain ⟨g, off, cap9, c9, hst9⟩ := las_list hT3 hk8 (HIL.out.2.2 k hk8); have HST := Lib.hid hst9; clear hst9)
                        | (go_at_call 31; (refine (HMXD.out _ g off cap9 HST.out).mono ?_); rintro e w4 ⟨T, rfl, hT4, g4⟩; rw [HW.out]; have HT4 := Lib.hid hT4; clear hT4; have hT5 := hT3.keep0 g4; have hB5 := (hB.trans b3).trans (gb_base g4 hT3.base)))
                      go_roundw
                      case rel => exact ⟨k + 1, q, s3, by omega, by go_num, rfl, hq1, fun e => by obtain ⟨j, h1, h2⟩ := HQJ.out e; exact ⟨j, by omega, h2⟩, hT5, HQ.out.2.2.2.2.1, HQ.out.2.2.2.2.2.1, HQ.out.2.2.2.2.2.2, hB5⟩
                      case measure => simp [intOf]; omega
                    | false =>
                      have hnot : S0 ∉ L k := fun e => by rw [(hasM_iff S0 (L k)).2 e] at hw; cases hw
                      have hpt : Parted (L k) S0 ∧ TA k := by rcases HMK.out with h | h; exact absurd h hnot; exact h
                      have hq0 : q = 0 := by
                        rcases Nat.lt_or_ge 0 q with h | h
                        · obtain ⟨j, h1, h2⟩ := HQJ.out (by omega)
                          have := HMX.out.1 j k h2 hpt.2
                          omega
                        · omega
                      subst hq0
                      have HW := Lib.hid (And.intro hw (And.intro hnot hpt))
                      clear hw hnot hpt
                      go_wp2_with (first
                        | (go_at_call 16; (refine (l_read hT (k : Int) HQ.out.2.2.2.1 (by omega) (by omega) 0 S0 s3 HQ.out.1 HQ.out.2.1 HQ.out.2.2.1).mono ?_); rintro e w3 ⟨rfl, hT3, b3⟩; obtain ⟨g, off, cap9, c9, hst9⟩ := las_list hT3 hk8 (HIL.out.2.2 k hk8); have HST := Lib.hid hst9; clear hst9)
                        | (go_at_call 31; (refine (HMXD.out _ g off cap9 HST.out).mono ?_); rintro e w4 ⟨T, rfl, hT4, g4⟩; obtain rfl := hT4 HW.out.2.1 HW.out.2.2.1; rw [HW.out.1]; have hT5 := hT3.keep0 g4; have hB5 := (hB.trans b3).trans (gb_base g4 hT3.base)))
                      go_roundw
                      case rel => exact ⟨k + 1, 1, s3, by omega, by go_num, rfl, by omega, fun _ => ⟨k, by omega, HW.out.2.2.2⟩, hT5, HQ.out.2.2.2.2.1, HQ.out.2.2.2.2.2.1, HQ.out.2.2.2.2.2.2, hB5⟩
                      case measure => simp [intOf]; omega
                  · obtain rfl : k = 8 := by omega
                    have hqd : decide ((q : Int) ≤ 1) = true := decide_eq_true (by omega)
                    go_wp2
                    go_ret
                    exact ⟨rfl, gb_of_below hB⟩
          · have hd2 : decide ((i : Int) < 30) = false := decide_eq_false (by omega)
            have HOut := Lib.hid (show Out w p mb wr from ⟨s, L, 3 * i, by omega, hT, hI, hB⟩)
            clear hT hI hB
            obtain ⟨s, L, N, hN, hT, hI, hB⟩ := HOut.out
            obtain ⟨hq, hok, hsl, TA, hTA, hmix⟩ := hI.boot (cs.take M)
            have hI1 := hI.1
            have hIl := fun k hk => hI.len (k := k) hk
            have hIs := fun k hk => hI.size (k := k) hk
            have hIn := fun k hk => hI.ne (k := k) hk
            obtain ⟨t, ht⟩ : ∃ t, bootS s (cs.take M) = t := ⟨_, rfl⟩
            rw [ht] at hq hok hsl hmix
            have HP := Lib.hid (And.intro ht (And.intro hI1 (And.intro hok hsl)))
            have HMX := Lib.hid (And.intro hTA hmix)
            have HIL := Lib.hid (And.intro hIl (And.intro hIs hIn))
            clear ht hI hI1 hok hsl hTA hmix hIl hIs hIn
            go_wp2_with (first
              | (go_at_call 25; (refine (l_boot hT _ (cs.take M) HP.out.2.1 (by omega) (HM.out.below hB hpos) (HCT.out _ hB) t HP.out.1).mono ?_); rintro e w1 ⟨rfl, hT1, b1⟩)
              | (go_at_call 27; (refine (l_off hT1 false hq.1).mono ?_); rintro e w2 ⟨rfl, rfl⟩)
              | (go_at_call 29; (refine (l_pending hT1 0 (by rw [hq.2.2]; rfl)).mono ?_); rintro e w2 ⟨rfl, rfl⟩))
            have HT1 := Lib.hid (And.intro hT1 (hB.trans b1))
            clear hT hT1 hB b1
            go_loopw [16, 17] (fun v16 v17 wz => ∃ k q s2, k ≤ 8 ∧ v17 = .int .i64 (k : Nat) ∧ v16 = .int .i64 (q : Nat) ∧ q ≤ 1 ∧ (q = 1 → ∃ j, j < k ∧ TA j) ∧ Las wz w.heap.size p mb s2 L ∧ s2.Ok (N + k) ∧ Quiet' s2 ∧ s2.secs = t.secs ∧ Below w.heap.size w wz) (fun _ v _ => 8 - (intOf v).toNat)
            case atStart => exact ⟨0, 0, t, by omega, rfl, rfl, by omega, fun h => by omega, HT1.out.1, HP.out.2.2.1, hq, rfl, HT1.out.2⟩
            case round =>
              clear HT1
              obtain ⟨k, q, s2, hk, rfl, rfl, hq1, hqj, hT, hok2, hq2, hse, hB⟩ := hrel
              have HQJ := Lib.hid hqj
              clear hqj
              by_cases hk8 : k < 8
              · have hml : k < s2.secs.length := by rw [hse, HP.out.2.2.2]; omega
                obtain ⟨hE, hS⟩ := hq2.read hml
                rw [hse] at hS
                obtain ⟨S0, hS0⟩ : ∃ S0, t.secs.getD k noS = S0 := ⟨_, rfl⟩
                rw [hS0] at hS
                have hmx := HMX.out.2 k hk8
                rw [hS0] at hmx
                obtain ⟨s3, hs3⟩ : ∃ s3, opS s2 (hasF s2 (k : Int)) = s3 := ⟨_, rfl⟩
                have hok3 := hok2.op (hasF s2 (k : Int))
                have hq3 := hq2.op (hasF s2 (k : Int))
                have hse3 := (opS_secs s2 (hasF s2 (k : Int))).1
                rw [hs3] at hok3 hq3 hse3
                have HQ := Lib.hid (And.intro hE (And.intro hS (And.intro hs3 (And.intro hok2 (And.intro hok3 (And.intro hq3 (hse3.trans hse)))))))
                have hszz : S0.size = 256 := hmx.1
                have HMK := Lib.hid hmx.2
                have hk0 : (0 : Int) ≤ (k : Int) := by omega
                have hk1 : (k : Int) < 8 := by omega
                have hkd : decide ((k : Int) < 8) = true := decide_eq_true hk1
                clear hE hS hs3 hok2 hok3 hq3 hse3 hse hq2 hml hS0 hmx
                have mx : ∀ W g off cap, Sts W (.slice (some ⟨g, off, none⟩) (L k).length cap) (L k) → Calls Tryd.prog 31 #[.string S0, .slice (some ⟨g, off, none⟩) (L k).length cap] W (MixGot W S0 (L k)) := fun W g off cap h => mixed_any _ S0 (L k) W h hszz (HIL.out.2.1 k hk8) (by have := HIL.out.1 k hk8; omega)
                have HMXD := Lib.hid mx
                clear mx
                cases hw : hasM S0 (L k) with
                | true =>
                  have HW := Lib.hid hw
                  clear hw
                  go_wp2_with (first
                    | (go_at_call 16; (refine (l_read hT (k : Int) HQ.out.2.2.2.1 (by omega) (by omega) 0 S0 s3 HQ.out.1 HQ.out.2.1 HQ.out.2.2.1).mono ?_); rintro e w3 ⟨rfl, hT3, b3⟩; obtain ⟨g, off, cap9, c9, hst9⟩ := las_list hT3 hk8 (HIL.out.2.2 k hk8); have HST := Lib.hid hst9; clear hst9)
                    | (go_at_call 31; (refine (HMXD.out _ g off cap9 HST.out).mono ?_); rintro e w4 ⟨T, rfl, hT4, g4⟩; rw [HW.out]; have HT4 := Lib.hid hT4; clear hT4; have hT5 := hT3.keep0 g4; have hB5 := (hB.trans b3).trans (gb_base g4 hT3.base)))
                  go_roundw
                  case rel => exact ⟨k + 1, q, s3, by omega, by go_num, rfl, hq1, fun e => by obtain ⟨j, h1, h2⟩ := HQJ.out e; exact ⟨j, by omega, h2⟩, hT5, HQ.out.2.2.2.2.1, HQ.out.2.2.2.2.2.1, HQ.out.2.2.2.2.2.2, hB5⟩
                  case measure => simp [intOf]; omega
                | false =>
                  have hnot : S0 ∉ L k := fun e => by rw [(hasM_iff S0 (L k)).2 e] at hw; cases hw
                  have hpt : Parted (L k) S0 ∧ TA k := by rcases HMK.out with h | h; exact absurd h hnot; exact h
                  have hq0 : q = 0 := by
                    rcases Nat.lt_or_ge 0 q with h | h
                    · obtain ⟨j, h1, h2⟩ := HQJ.out (by omega)
                      have := HMX.out.1 j k h2 hpt.2
                      omega
                    · omega
                  subst hq0
                  have HW := Lib.hid (And.intro hw (And.intro hnot hpt))
                  clear hw hnot hpt
                  go_wp2_with (first
                    | (go_at_call 16; (refine (l_read hT (k : Int) HQ.out.2.2.2.1 (by omega) (by omega) 0 S0 s3 HQ.out.1 HQ.out.2.1 HQ.out.2.2.1).mono ?_); rintro e w3 ⟨rfl, hT3, b3⟩; obtain ⟨g, off, cap9, c9, hst9⟩ := las_list hT3 hk8 (HIL.out.2.2 k hk8); have HST := Lib.hid hst9; clear hst9)
                    | (go_at_call 31; (refine (HMXD.out _ g off cap9 HST.out).mono ?_); rintro e w4 ⟨T, rfl, hT4, g4⟩; obtain rfl := hT4 HW.out.2.1 HW.out.2.2.1; rw [HW.out.1]; have hT5 := hT3.keep0 g4; have hB5 := (hB.trans b3).trans (gb_base g4 hT3.base)))
                  go_roundw
                  case rel => exact ⟨k + 1, 1, s3, by omega, by go_num, rfl, by omega, fun _ => ⟨k, by omega, HW.out.2.2.2⟩, hT5, HQ.out.2.2.2.2.1, HQ.out.2.2.2.2.2.1, HQ.out.2.2.2.2.2.2, hB5⟩
                  case measure => simp [intOf]; omega
              · obtain rfl : k = 8 := by omega
                have hqd : decide ((q : Int) ≤ 1) = true := decide_eq_true (by omega)
                go_wp2
                go_ret
                exact ⟨rfl, gb_of_below hB⟩
        · have hd1 : decide ((i : Int) < (l.length : Int)) = false := decide_eq_false (by omega)
          have HOut := Lib.hid (show Out w p mb wr from ⟨s, L, 3 * i, by omega, hT, hI, hB⟩)
          clear hT hI hB
          obtain ⟨s, L, N, hN, hT, hI, hB⟩ := HOut.out
          obtain ⟨hq, hok, hsl, TA, hTA, hmix⟩ := hI.boot (cs.take M)
          have hI1 := hI.1
          have hIl := fun k hk => hI.len (k := k) hk
          have hIs := fun k hk => hI.size (k := k) hk
          have hIn := fun k hk => hI.ne (k := k) hk
          obtain ⟨t, ht⟩ : ∃ t, bootS s (cs.take M) = t := ⟨_, rfl⟩
          rw [ht] at hq hok hsl hmix
          have HP := Lib.hid (And.intro ht (And.intro hI1 (And.intro hok hsl)))
          have HMX := Lib.hid (And.intro hTA hmix)
          have HIL := Lib.hid (And.intro hIl (And.intro hIs hIn))
          clear ht hI hI1 hok hsl hTA hmix hIl hIs hIn
          go_wp2_with (first
            | (go_at_call 25; (refine (l_boot hT _ (cs.take M) HP.out.2.1 (by omega) (HM.out.below hB hpos) (HCT.out _ hB) t HP.out.1).mono ?_); rintro e w1 ⟨rfl, hT1, b1⟩)
            | (go_at_call 27; (refine (l_off hT1 false hq.1).mono ?_); rintro e w2 ⟨rfl, rfl⟩)
            | (go_at_call 29; (refine (l_pending hT1 0 (by rw [hq.2.2]; rfl)).mono ?_); rintro e w2 ⟨rfl, rfl⟩))
          have HT1 := Lib.hid (And.intro hT1 (hB.trans b1))
          clear hT hT1 hB b1
          go_loopw [16, 17] (fun v16 v17 wz => ∃ k q s2, k ≤ 8 ∧ v17 = .int .i64 (k : Nat) ∧ v16 = .int .i64 (q : Nat) ∧ q ≤ 1 ∧ (q = 1 → ∃ j, j < k ∧ TA j) ∧ Las wz w.heap.size p mb s2 L ∧ s2.Ok (N + k) ∧ Quiet' s2 ∧ s2.secs = t.secs ∧ Below w.heap.size w wz) (fun _ v _ => 8 - (intOf v).toNat)
          case atStart => exact ⟨0, 0, t, by omega, rfl, rfl, by omega, fun h => by omega, HT1.out.1, HP.out.2.2.1, hq, rfl, HT1.out.2⟩
          case round =>
            clear HT1
            obtain ⟨k, q, s2, hk, rfl, rfl, hq1, hqj, hT, hok2, hq2, hse, hB⟩ := hrel
            have HQJ := Lib.hid hqj
            clear hqj
            by_cases hk8 : k < 8
            · have hml : k < s2.secs.length := by rw [hse, HP.out.2.2.2]; omega
              obtain ⟨hE, hS⟩ := hq2.read hml
              rw [hse] at hS
              obtain ⟨S0, hS0⟩ : ∃ S0, t.secs.getD k noS = S0 := ⟨_, rfl⟩
              rw [hS0] at hS
              have hmx := HMX.out.2 k hk8
              rw [hS0] at hmx
              obtain ⟨s3, hs3⟩ : ∃ s3, opS s2 (hasF s2 (k : Int)) = s3 := ⟨_, rfl⟩
              have hok3 := hok2.op (hasF s2 (k : Int))
              have hq3 := hq2.op (hasF s2 (k : Int))
              have hse3 := (opS_secs s2 (hasF s2 (k : Int))).1
              rw [hs3] at hok3 hq3 hse3
              have HQ := Lib.hid (And.intro hE (And.intro hS (And.intro hs3 (And.intro hok2 (And.intro hok3 (And.intro hq3 (hse3.trans hse)))))))
              have hszz : S0.size = 256 := hmx.1
              have HMK := Lib.hid hmx.2
              have hk0 : (0 : Int) ≤ (k : Int) := by omega
              have hk1 : (k : Int) < 8 := by omega
              have hkd : decide ((k : Int) < 8) = true := decide_eq_true hk1
              clear hE hS hs3 hok2 hok3 hq3 hse3 hse hq2 hml hS0 hmx
              have mx : ∀ W g off cap, Sts W (.slice (some ⟨g, off, none⟩) (L k).length cap) (L k) → Calls Tryd.prog 31 #[.string S0, .slice (some ⟨g, off, none⟩) (L k).length cap] W (MixGot W S0 (L k)) := fun W g off cap h => mixed_any _ S0 (L k) W h hszz (HIL.out.2.1 k hk8) (by have := HIL.out.1 k hk8; omega)
              have HMXD := Lib.hid mx
              clear mx
              cases hw : hasM S0 (L k) with
              | true =>
                have HW := Lib.hid hw
                clear hw
                go_wp2_with (first
                  | (go_at_call 16; (refine (l_read hT (k : Int) HQ.out.2.2.2.1 (by omega) (by omega) 0 S0 s3 HQ.out.1 HQ.out.2.1 HQ.out.2.2.1).mono ?_); rintro e w3 ⟨rfl, hT3, b3⟩; obtain ⟨g, off, cap9, c9, hst9⟩ := las_list hT3 hk8 (HIL.out.2.2 k hk8); have HST := Lib.hid hst9; clear hst9)
                  | (go_at_call 31; (refine (HMXD.out _ g off cap9 HST.out).mono ?_); rintro e w4 ⟨T, rfl, hT4, g4⟩; rw [HW.out]; have HT4 := Lib.hid hT4; clear hT4; have hT5 := hT3.keep0 g4; have hB5 := (hB.trans b3).trans (gb_base g4 hT3.base)))
                go_roundw
                case rel => exact ⟨k + 1, q, s3, by omega, by go_num, rfl, hq1, fun e => by obtain ⟨j, h1, h2⟩ := HQJ.out e; exact ⟨j, by omega, h2⟩, hT5, HQ.out.2.2.2.2.1, HQ.out.2.2.2.2.2.1, HQ.out.2.2.2.2.2.2, hB5⟩
                case measure => simp [intOf]; omega
              | false =>
                have hnot : S0 ∉ L k := fun e => by rw [(hasM_iff S0 (L k)).2 e] at hw; cases hw
                have hpt : Parted (L k) S0 ∧ TA k := by rcases HMK.out with h | h; exact absurd h hnot; exact h
                have hq0 : q = 0 := by
                  rcases Nat.lt_or_ge 0 q with h | h
                  · obtain ⟨j, h1, h2⟩ := HQJ.out (by omega)
                    have := HMX.out.1 j k h2 hpt.2
                    omega
                  · omega
                subst hq0
                have HW := Lib.hid (And.intro hw (And.intro hnot hpt))
                clear hw hnot hpt
                go_wp2_with (first
                  | (go_at_call 16; (refine (l_read hT (k : Int) HQ.out.2.2.2.1 (by omega) (by omega) 0 S0 s3 HQ.out.1 HQ.out.2.1 HQ.out.2.2.1).mono ?_); rintro e w3 ⟨rfl, hT3, b3⟩; obtain ⟨g, off, cap9, c9, hst9⟩ := las_list hT3 hk8 (HIL.out.2.2 k hk8); have HST := Lib.hid hst9; clear hst9)
                  | (go_at_call 31; (refine (HMXD.out _ g off cap9 HST.out).mono ?_); rintro e w4 ⟨T, rfl, hT4, g4⟩; obtain rfl := hT4 HW.out.2.1 HW.out.2.2.1; rw [HW.out.1]; have hT5 := hT3.keep0 g4; have hB5 := (hB.trans b3).trans (gb_base g4 hT3.base)))
                go_roundw
                case rel => exact ⟨k + 1, 1, s3, by omega, by go_num, rfl, by omega, fun _ => ⟨k, by omega, HW.out.2.2.2⟩, hT5, HQ.out.2.2.2.2.1, HQ.out.2.2.2.2.2.1, HQ.out.2.2.2.2.2.2, hB5⟩
                case measure => simp [intOf]; omega
            · obtain rfl : k = 8 := by omega
              have hqd : decide ((q : Int) ≤ 1) = true := decide_eq_true (by omega)
              go_wp2
              go_ret
              exact ⟨rfl, gb_of_below hB⟩
end Go.Proofs.YtcoegaipojnndaaDoor
