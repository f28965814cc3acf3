/-
  The torn write of a fate (fate.torn), over this seat's translation; conditions: the slices read as lists, the tail has three bytes.
-/
import Derived.Test.YtcoegaipojnndaaDoorFt3
namespace Go.Proofs.YtcoegaipojnndaaDoor
open Go.RowKit Go.Shelf
attribute [local go_sem] Oper.semAt_some

theorem bits_or16 (a b : Nat) (ha : a < 256) (hb : b < 256) : bits BinOp.or IntKind.i64 ((a : Int) * 256) (b : Int) = ((256 * a + b : Nat) : Int) := by
  have e : bits BinOp.or IntKind.i64 ((a : Int) * 256) (b : Int) = IntKind.i64.wrap ((BitVec.ofInt 64 ((a : Int) * 256) ||| BitVec.ofInt 64 (b : Int)).toNat) := rfl
  rw [e, BitVec.toNat_or]
  have h1 : (BitVec.ofInt 64 ((a : Int) * 256)).toNat = 2 ^ 8 * a := by simp [BitVec.toNat_ofInt]; omega
  have h2 : (BitVec.ofInt 64 (b : Int)).toNat = b := by simp; omega
  rw [h1, h2, ← Nat.two_pow_add_eq_or_of_lt (by omega : b < 2 ^ 8)]
  rw [show 2 ^ 8 * a + b = 256 * a + b by omega]
  simp only [IntKind.wrap, IntKind.bits, IntKind.signed]; simp; omega
theorem came_index (b : List Bool) (n j i : Nat) (h : (cameTo b n)[j]? = some i) : i < n ∧ b.getD i false = true ∧ (cameTo b i).length = j := by
  induction n with
  | zero => simp [cameTo] at h
  | succ n ih =>
    cases hb : b.getD n false with
    | false => rw [cameTo_no hb] at h; obtain ⟨h1, h2, h3⟩ := ih h; exact ⟨by omega, h2, h3⟩
    | true =>
      rw [cameTo_yes hb] at h
      rcases Nat.lt_or_ge j (cameTo b n).length with hj | hj
      · rw [List.getElem?_append_left hj] at h; obtain ⟨h1, h2, h3⟩ := ih h; exact ⟨by omega, h2, h3⟩
      · rw [List.getElem?_append_right hj] at h
        have hl := (List.getElem?_eq_some_iff.1 h).1
        simp at hl
        have : j - (cameTo b n).length = 0 := by omega
        rw [this] at h
        obtain rfl : n = i := by simpa using h
        exact ⟨by omega, hb, by omega⟩
theorem came_get (b : List Bool) (n i : Nat) (hi : i < n) (h : b.getD i false = true) : (cameTo b n)[(cameTo b i).length]? = some i := by
  induction n with
  | zero => omega
  | succ n ih =>
    have hlt : ∀ m, i < m → (cameTo b i).length < (cameTo b m).length := by
      intro m hm
      induction m with
      | zero => omega
      | succ m ihm =>
        by_cases e : i = m
        · subst e; rw [cameTo_yes h]; simp
        · have := ihm (by omega)
          cases hb : b.getD m false with
          | false => rw [cameTo_no hb]; exact this
          | true => rw [cameTo_yes hb, List.length_append]; omega
    by_cases e : i = n
    · subst e; rw [cameTo_yes h]; simp
    · have h1 := ih (by omega)
      cases hb : b.getD n false with
      | false => rw [cameTo_no hb]; exact h1
      | true => rw [cameTo_yes hb, List.getElem?_append_left (hlt n (by omega))]; exact h1
theorem heap_fill (B D : Nat) (h : D ≠ B) (W : World) (x y z : Value) : (((W.setCell ⟨B, 0, none⟩ x).setCell ⟨B, 1, none⟩ y).setCell ⟨B, 2, none⟩ z).heap[D]? = W.heap[D]? :=
  (Below.heap_setCell _ ⟨B, 2, none⟩ z D h).trans ((Below.heap_setCell _ ⟨B, 1, none⟩ y D h).trans (Below.heap_setCell _ ⟨B, 0, none⟩ x D h))
/-- The torn write, and its place, as a tail of bytes tells them. -/
def tornS (b : List Bool) (ts : List UInt8) : Bool := decide ((ts.getD 0 0).toNat < 128) && decide (0 < (cameTo b b.length).length)
def tornT (b : List Bool) (ts : List UInt8) : Int := if tornS b ts = true then (((cameTo b b.length).getD ((ts.getD 0 0).toNat % (cameTo b b.length).length) 0 : Nat) : Int) else -1
def atT (b : List Bool) (ts : List UInt8) : Int := if tornS b ts = true then (((256 * (ts.getD 1 0).toNat + (ts.getD 2 0).toNat) % 257 : Nat) : Int) else 0

def TornGot (w : World) (v : Value) (t a : Int) (e : Ending) (w' : World) : Prop := e = .returned (.agg #[v, .int .i64 t, .int .i64 a]) ∧ w.grownBy w' none
set_option maxRecDepth 100000 in
set_option maxHeartbeats 1000000 in
theorem torn_any (v vt : Value) (b : List Bool) (ts : List UInt8) (w : World) (hv : Bls w v b) (ht : Bts w vt ts) (hb : b.length ≤ 1000000) (hts : 3 ≤ ts.length) :
    Calls Tryd.prog 38 #[.agg #[v, .int .i64 (-1), .int .i64 0], vt] w (TornGot w v (tornT b ts) (atT b ts)) := by
  have hcount := count_any v b
  have HV := Lib.hid hv
  obtain ⟨ao, cap, rfl, hnil, hcells⟩ := bls_parts hv
  obtain ⟨x, capt, rfl, hct, hcx⟩ := ht.some (by omega)
  have HN := Lib.hid hnil
  have HC := Lib.hid hcells
  have t0 := hcx 0 _ (bytes_at (l := ts) (by omega))
  have t1 := hcx 1 _ (bytes_at (l := ts) (by omega))
  have t2 := hcx 2 _ (bytes_at (l := ts) (by omega))
  rw [add_zero] at t0
  have T := Lib.hid (And.intro t1 t2)
  clear hcx ht t1 t2
  clear hnil hcells hv
  refine (callsIn_wide (n := 5)).1 ?_
  refine callsIn_of_wp_marks Tryd.func38 rfl trivial ?_ rfl
  simp only [Tryd.ntmps38, List.size_toArray, List.length_cons, List.length_nil, Nat.reduceAdd, Nat.reduceSub, Array.replicate_succ, Array.replicate_zero, List.push_toArray, List.append_toArray, List.nil_append, List.cons_append]
  gi_wp2_with fail
  have b0 := (Blk.mk w 25 #[.slice ao b.length cap, .int .i64 (-1), .int .i64 0]).keep0 (gb_alloc _ (.cells #[.slice none 0 0, .int .i64 0, .int .i64 0] 25) none)
  have b1 := Blk.mk (w.alloc (.cells #[.slice ao b.length cap, .int .i64 (-1), .int .i64 0] 25)) 25 #[.slice none 0 0, .int .i64 0, .int .i64 0]
  have g0 : w.grownBy ((w.alloc (.cells #[.slice ao b.length cap, .int .i64 (-1), .int .i64 0] 25)).alloc (.cells #[.slice none 0 0, .int .i64 0, .int .i64 0] 25)) none := gb_trans (gb_alloc _ _ _) (gb_alloc _ _ _)
  simp only [World.size_alloc] at b1
  generalize (w.alloc (.cells #[.slice ao b.length cap, .int .i64 (-1), .int .i64 0] 25)).alloc (.cells #[.slice none 0 0, .int .i64 0, .int .i64 0] 25) = W0 at b0 b1 g0 ⊢
  refine ⟨trivial, ?_⟩
  gi_at_call 51
  (with_reducible refine (callsIn_wide.2 (hcount W0 (HV.out.keep0 g0) hb)).mono ?_)
  rintro e w1 ⟨rfl, g1⟩
  clear hcount
  replace b0 := b0.keep0 g1
  replace b1 := b1.keep0 g1
  replace g0 := gb_trans g0 g1
  replace t0 := g0.cell t0 (by simp)
  clear g1
  obtain ⟨m, hm⟩ : ∃ m, (cameTo b b.length).length = m := ⟨_, rfl⟩
  obtain ⟨y, hy⟩ : ∃ y, ts.getD 0 0 = y := ⟨_, rfl⟩
  have hmb : m ≤ b.length := by rw [← hm]; exact cameTo_le b _
  rw [hy] at t0
  simp only [hm]
  have c00 := b0.cell 0 rfl
  have c01 := b0.cell 1 rfl
  have c02 := b0.cell 2 rfl
  have r10 := b1.cell 0 rfl
  have r11 := b1.cell 1 rfl
  have r12 := b1.cell 2 rfl
  have q0 := b1.free 0
  have q1 := b1.free 1
  have q2 := b1.free 2
  by_cases hbig : 127 < y.toNat
  · have hS : tornS b ts = false := by unfold tornS; rw [hy]; simp; omega
    have hfin : tornT b ts = -1 ∧ atT b ts = 0 := by unfold tornT atT; rw [hS]; exact ⟨rfl, rfl⟩
    have HF := Lib.hid hfin
    have hd : decide ((127 : Int) < (y.toNat : Int)) = true := by simp; omega
    clear hfin hS
    gi_wp2
    exact ⟨_, fate_row rfl _ _ (w.heap.size + 1) _ _ _ rfl (blk_fill b1 _ _ _), by rw [HF.out.1, HF.out.2], gb_fill g0 (by omega) _ _ _⟩
  · have hd : decide ((127 : Int) < (y.toNat : Int)) = false := by simp; omega
    by_cases hz : m = 0
    · have hS : tornS b ts = false := by unfold tornS; rw [hm, hz]; simp
      have hfin : tornT b ts = -1 ∧ atT b ts = 0 := by unfold tornT atT; rw [hS]; exact ⟨rfl, rfl⟩
      have HF := Lib.hid hfin
      clear hfin hS
      subst hz
      gi_wp2
      exact ⟨_, fate_row rfl _ _ (w.heap.size + 1) _ _ _ rfl (blk_fill b1 _ _ _), by rw [HF.out.1, HF.out.2], gb_fill g0 (by omega) _ _ _⟩
    · have hS : tornS b ts = true := by unfold tornS; rw [hm, hy]; simp; omega
      have hfin : tornT b ts = (((cameTo b b.length).getD (y.toNat % m) 0 : Nat) : Int) ∧ atT b ts = (((256 * (ts.getD 1 0).toNat + (ts.getD 2 0).toNat) % 257 : Nat) : Int) := by unfold tornT atT; rw [hS, hy, hm]; exact ⟨rfl, rfl⟩
      have HF := Lib.hid hfin
      have Hm := Lib.hid hm
      have hm0 : ¬ (m : Int) = 0 := by omega
      have hm1 : ((m : Int) == 0) = false := beq_eq_false_iff_ne.2 hm0
      obtain ⟨j, hj⟩ : ∃ j, y.toNat % m = j := ⟨_, rfl⟩
      have hjm : j < m := by rw [← hj]; exact Nat.mod_lt _ (by omega)
      have hw1 : (y.toNat : Int).tmod (m : Int) = (j : Int) := by rw [← hj]; exact (Int.ofNat_tmod _ _).symm
      have hw3 : (y.toNat : Int) % (m : Int) = (j : Int) := by rw [← hj]; rfl
      have hw2 : IntKind.i64.wrap (j : Int) = (j : Int) := IntWalk.i64_in _ (by omega)
      have hw4 : IntKind.i64.wrap (y.toNat : Int) = (y.toNat : Int) := IntWalk.i64_in _ (by have := y.toNat_lt; omega)
      have Hj := Lib.hid hj
      clear hfin hS hm hj
      have hl0 := b0.lt
      have hl1 := b1.lt
      gi_wp2_with (refine ⟨trivial, ?_⟩; gi_at_call 35; (with_reducible refine (callsIn_wide.2 (arrived_any _ _ _ _)).mono ?_); rintro e w' ⟨rfl, rfl⟩)
      have b2 := (Blk.mk w1 3 #[.int .i64 (j : Nat)]).keep0 (gb_alloc _ (.cells #[.slice ao b.length cap] 23) none)
      have b3 := Blk.mk (w1.alloc (.cells #[.int .i64 (j : Nat)] 3)) 23 #[.slice ao b.length cap]
      have g2 : w1.grownBy ((w1.alloc (.cells #[.int .i64 (j : Nat)] 3)).alloc (.cells #[.slice ao b.length cap] 23)) none := gb_trans (gb_alloc _ _ _) (gb_alloc _ _ _)
      have hsz : ((w1.alloc (.cells #[.int .i64 (j : Nat)] 3)).alloc (.cells #[.slice ao b.length cap] 23)).heap.size = w1.heap.size + 2 := by simp
      simp only [World.size_alloc] at b3
      generalize (w1.alloc (.cells #[.int .i64 (j : Nat)] 3)).alloc (.cells #[.slice ao b.length cap] 23) = W2 at b2 b3 g2 hsz ⊢
      replace b0 := b0.keep0 g2
      replace b1 := b1.keep0 g2
      replace g0 := gb_trans g0 g2
      clear c00 c01 c02 r10 r11 r12 q0 q1 q2 t0
      obtain ⟨i, hi⟩ : ∃ i, (cameTo b b.length).getD j 0 = i := ⟨_, rfl⟩
      have Hi := Lib.hid hi
      clear hi
      refine wpIn_rangeFunc_ownF (a₁ := ?fr) rfl (by omega) (gf := 50) (lb := #[.pointer (some ⟨w1.heap.size + 1, 0, none⟩)]) rfl trivial (enters_of Tryd.func50 (by kernel_rfl) rfl)
        (arrived_stops Fence.wide _ trivial rfl (by omega) (w1.heap.size + 1) w.heap.size ao cap b hb W2 (by omega) (by omega) (b3.cell 0 rfl) HN.out (fun a e hp => low_of HC.out a e hp) (fun a e j u hj => g0.cell (HC.out a e j u hj) (by simp))) kept_t kept_b (Below.refl _ _) (fun _ => rfl)
        (fun pre W => Blk W w.heap.size 25 #[.slice ao b.length cap, .int .i64 (-1), .int .i64 0] ∧ Blk W (w.heap.size + 1) 25 #[.slice none 0 0, .int .i64 0, .int .i64 0] ∧ Blk W w1.heap.size 3 #[.int .i64 (j : Nat)] ∧ Below w.heap.size w W ∧ ∀ y ∈ pre, y.1.1 ≠ j)
        (fun c _ W => c = Code.exit 0 ∧ Blk W w.heap.size 25 #[.slice ao b.length cap, .int .i64 (i : Nat), .int .i64 0] ∧ Blk W (w.heap.size + 1) 25 #[.slice none 0 0, .int .i64 0, .int .i64 0] ∧ Below w.heap.size w W)
        (OwnFrom.and (blk_own _ _ _ _) (OwnFrom.and (blk_own _ _ _ _) (OwnFrom.and (blk_own _ _ _ _) (OwnFrom.and (ownFrom_below (Nat.le_refl _) (by omega)) (fun _ _ _ _ h _ _ => h)))))
        (fun _ => OwnFrom.and (fun _ _ _ _ h _ _ => h) (OwnFrom.and (blk_own _ _ _ _) (OwnFrom.and (blk_own _ _ _ _) (ownFrom_below (Nat.le_refl _) (by omega)))))
        ⟨b0, b1, b2, gb_below g0, by simp⟩
        ?assign ?body ?done ?stop
      case assign =>
        intro l x W K hK
        gi_wp2
        exact hK
      case body =>
        rintro l pre x W ⟨hT0, hT1, hT2, hB, hne⟩ hpl
        have c0 := hT2.cell 0 rfl
        have d1 := hT0.cell 1 rfl
        have e1 := hT0.free 1
        by_cases hx : x.1.1 = j
        · have hxi : x.1.2 = i := by
            have h7 := came_get b b.length x.1.2 x.2.1 x.2.2.1
            rw [← x.2.2.2, hx] at h7
            rw [← Hi.out, List.getD, h7]; rfl
          have hx1 : ((x.1.1 : Int) == (j : Int)) = true := by rw [hx]; simp
          gi_wp2
          exact ⟨KeepsOthers.setCell _ _ _, rfl, hT0.set 1 _, hT1.keep (gb_set _ _ _ _ _) (ne_some (by omega)), hB.setCell (p := ⟨w.heap.size, 1, none⟩) (Nat.le_refl _) _⟩
        · have hx1 : ((x.1.1 : Int) == (j : Int)) = false := beq_eq_false_iff_ne.2 (by omega)
          gi_wp2
          refine ⟨KeepsOthers.refl _, kept_refl _ _, hT0, hT1, hT2, hB, ?_⟩
          intro z hz
          rcases List.mem_append.1 hz with h | h
          · exact hne z h
          · rw [List.mem_singleton.1 h]; exact hx
      case done =>
        rintro D ys W hD hys ⟨hT0, hT1, hT2, hB, hne⟩ hK
        exfalso
        have h7 : j < ys.length := by rw [came_len b ys hys, Hm.out]; exact hjm
        refine hne ys[j] (List.getElem_mem h7) ?_
        have h8 : (cameTo b b.length)[j]? = some ys[j].1.2 := by rw [← hys, List.getElem?_map, List.getElem?_eq_getElem h7]; rfl
        rw [ys[j].2.2.2]
        exact (came_index b _ _ _ h8).2.2
      case stop =>
        rintro D c pre W hD ⟨k, hk, _⟩ ⟨rfl, hT0, hT1, hB⟩ hK
        have t1 := (hB.cell (cell_lt T.out.1)).trans T.out.1
        have t2 := (hB.cell (cell_lt T.out.2)).trans T.out.2
        replace t1 : W.cell? ⟨x.block, x.off + 1, none⟩ = some (.int .u8 ((ts.getD 1 0).toNat : Nat)) := t1
        replace t2 : W.cell? ⟨x.block, x.off + 2, none⟩ = some (.int .u8 ((ts.getD 2 0).toNat : Nat)) := t2
        generalize ts.getD 1 0 = y1 at t1 HF
        generalize ts.getD 2 0 = y2 at t2 HF
        have hy1 := y1.toNat_lt
        have hy2 := y2.toNat_lt
        have hor := bits_or16 y1.toNat y2.toNat hy1 hy2
        obtain ⟨N, hN⟩ : ∃ N, 256 * y1.toNat + y2.toNat = N := ⟨_, rfl⟩
        have hNb : N ≤ 65535 := by omega
        rw [hN] at hor
        have HE : Hid (TornGot w (.slice ao b.length cap) (tornT b ts) (atT b ts) = TornGot w (.slice ao b.length cap) (i : Nat) (N % 257 : Nat)) := by
          refine Lib.hid ?_
          rw [HF.out.1, HF.out.2, Hj.out, Hi.out, hN]
        clear HF hN
        obtain ⟨R, hR⟩ : ∃ R, N % 257 = R := ⟨_, rfl⟩
        rw [hR] at HE
        have hR1 : (N : Int).tmod 257 = (R : Int) := by rw [← hR]; exact (Int.ofNat_tmod _ _).symm
        have hR2 : (N : Int) % 257 = (R : Int) := by rw [← hR]; rfl
        clear hR
        have r0 := hT1.cell 0 rfl
        have r1 := hT1.cell 1 rfl
        have r2 := hT1.cell 2 rfl
        have q0 := hT1.free 0
        have q1 := hT1.free 1
        have q2 := hT1.free 2
        have d0 := hT0.cell 0 rfl
        have d1 := hT0.cell 1 rfl
        have d2 := hT0.cell 2 rfl
        have e2 := hT0.free 2
        have hmx : Tryd.prog.follows .mixedOrders = true := by kernel_rfl
        have l1 : (1 : Int) < (ts.length : Int) := by omega
        have l2 : (2 : Int) < (ts.length : Int) := by omega
        gi_wp2
        gi_region_o
        all_goals gi_wp2
        all_goals
          have hF := (blk_fill (hT1.keep (gb_set W w.heap.size 2 none (.int .i64 (R : Nat))) (ne_some (by omega))) (.slice ao b.length cap) (.int .i64 (i : Nat)) (.int .i64 (R : Nat)))
          have hG := (gb_fill (gb_step (gb_of_below hB) (gb_set W w.heap.size 2 none (.int .i64 (R : Nat))) (Nat.le_refl _)) (B := w.heap.size + 1) (by omega) (.slice ao b.length cap) (.int .i64 (i : Nat)) (.int .i64 (R : Nat)))
          have hKF := (heap_fill (w.heap.size + 1) D (by omega) (W.setCell ⟨w.heap.size, 2, none⟩ (.int .i64 (R : Nat))) (.slice ao b.length cap) (.int .i64 (i : Nat)) (.int .i64 (R : Nat))).trans ((Below.heap_setCell W ⟨w.heap.size, 2, none⟩ (.int .i64 (R : Nat)) D (by show D ≠ w.heap.size; omega)).trans hK)
          generalize (((W.setCell ⟨w.heap.size, 2, none⟩ (.int .i64 (R : Nat))).setCell ⟨w.heap.size + 1, 0, none⟩ (.slice ao b.length cap)).setCell ⟨w.heap.size + 1, 1, none⟩ (.int .i64 (i : Nat))).setCell ⟨w.heap.size + 1, 2, none⟩ (.int .i64 (R : Nat)) = W5 at hF hG hKF ⊢
          refine ⟨by simp, .inl ⟨_, _, rfl, run_takeDeferred (show W5.drew.heap[D]? = _ from hKF), ?_⟩⟩
          refine ⟨_, fate_row rfl _ _ (w.heap.size + 1) _ _ _ rfl ((hF.keep0 (gb_drew _ _)).keep (grownBy_putObj' _ D _) (ne_some (by omega))), ?_⟩
          rw [HE.out]
          exact ⟨rfl, gb_step (gb_trans hG (gb_drew _ _)) (grownBy_putObj' _ D _) (by omega)⟩
end Go.Proofs.YtcoegaipojnndaaDoor

