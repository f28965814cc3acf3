/-
  FateKnown's walk, works, the two hundred bools, the thirteen rows, the chapter's examples.
-/
import Derived.Test.YtcoegaipojnndaaDoorFk1
import Derived.Test.YtcoegaipojnndaaDoorFkr
namespace Go.Proofs.YtcoegaipojnndaaDoor
open Go.RowKit

/-- What stands behind the loop that makes all of them true. -/
def Made (w : World) (v : Value) (w' : World) : Prop := Bls w' v (List.replicate 200 true) ∧ w.grownBy w' none
theorem all_true (N : Nat) : (List.range N).map (fun _ => true) = List.replicate N true := by
  apply List.ext_getElem?; intro j; by_cases h : j < N <;> simp [h]
theorem made_of {w wr : World} {b N : Nat} (hN : N = 200) (h : Blk wr b 4 (bools (firstF (fun _ => true) N N)).toArray) (g : w.grownBy wr none) : Made w (.slice (some ⟨b, 0, none⟩) 200 200) wr := by
  rw [firstF_all, all_true] at h
  have h2 := bls_of_blk h (List.length_replicate (n := N))
  rw [hN] at h2
  exact ⟨h2, g⟩
/-- The thirteen rows: which bools, torn, at, and the errno that is asked. -/
def rowsF (T A B : List Bool) : List (List Bool × Int × Int × Int) := [([], (-1), 0, 0),
  ([], 0, 0, 2),
  ([], (-1), 1, 2),
  ([], (-2), 0, 2),
  ([false], 0, 0, 2),
  ([true], 1, 0, 2),
  ([true], 0, 256, 0),
  ([true], 0, 257, 2),
  ([true], 0, (-1), 2),
  (T, 127, 0, 0),
  (T, 128, 0, 4),
  (A, (-1), 0, 0),
  (B, (-1), 0, 4)]
theorem rowsF_put {T A B : List Bool} (hT : T = List.replicate 200 true) (hA : A = List.replicate 4096 false) (hB : B = List.replicate 4097 false) : ∀ r ∈ rowsF T A B, putE r.1 r.2.1 r.2.2.1 = r.2.2.2 ∧ r.1.length ≤ 1000000 := by
  unfold rowsF
  refine List.forall_mem_cons.2 ⟨⟨k_e1, by decide⟩, ?_⟩
  refine List.forall_mem_cons.2 ⟨⟨k_e2, by decide⟩, ?_⟩
  refine List.forall_mem_cons.2 ⟨⟨k_e3, by decide⟩, ?_⟩
  refine List.forall_mem_cons.2 ⟨⟨k_e4, by decide⟩, ?_⟩
  refine List.forall_mem_cons.2 ⟨⟨k_e5, by decide⟩, ?_⟩
  refine List.forall_mem_cons.2 ⟨⟨k_e6, by decide⟩, ?_⟩
  refine List.forall_mem_cons.2 ⟨⟨k_e7, by decide⟩, ?_⟩
  refine List.forall_mem_cons.2 ⟨⟨k_e8, by decide⟩, ?_⟩
  refine List.forall_mem_cons.2 ⟨⟨k_e9, by decide⟩, ?_⟩
  refine List.forall_mem_cons.2 ⟨⟨by rw [hT]; exact k_e10, by rw [hT, List.length_replicate]; decide⟩, ?_⟩
  refine List.forall_mem_cons.2 ⟨⟨by rw [hT]; exact k_e11, by rw [hT, List.length_replicate]; decide⟩, ?_⟩
  refine List.forall_mem_cons.2 ⟨⟨by rw [hA]; exact k_e12, by rw [hA, List.length_replicate]; decide⟩, ?_⟩
  refine List.forall_mem_cons.2 ⟨⟨by rw [hB]; exact k_e13, by rw [hB, List.length_replicate]; decide⟩, ?_⟩
  intro r hr
  cases hr
theorem rowsF_length (T A B : List Bool) : (rowsF T A B).length = 13 := rfl
def kdsF (T A B : List Bool) : List Kd := [.fate [] (-1) 0, .row [] (-1) 0 0, .fate [] 0 0, .row [] 0 0 2, .fate [] (-1) 1, .row [] (-1) 1 2, .fate [] (-2) 0, .row [] (-2) 0 2, .bs [false], .fate [false] 0 0, .row [false] 0 0 2, .bs [true], .fate [true] 1 0, .row [true] 1 0 2, .bs [true], .fate [true] 0 256, .row [true] 0 256 0, .bs [true], .fate [true] 0 257, .row [true] 0 257 2, .bs [true], .fate [true] 0 (-1), .row [true] 0 (-1) 2, .bs T, .fate T 127 0, .row T 127 0 0, .bs T, .fate T 128 0, .row T 128 0 4, .bs A, .fate A (-1) 0, .row A (-1) 0 0, .bs B, .fate B (-1) 0, .row B (-1) 0 4, .tab (rowsF T A B), .val (.int .i64 13), .val (.int .i64 0)]
/-- What a round of the loop over them loads. -/
def RowGot (w : World) (tb : Addr) : Prop := ∀ k, k < 13 → ∃ (s : Value) (l : List Bool) (t a : Int), w.cell? (tb.add (k * 4)) = some s ∧ w.cell? ⟨(tb.add (k * 4)).block, (tb.add (k * 4)).off + 1, none⟩ = some (.int .i64 t) ∧ w.cell? ⟨(tb.add (k * 4)).block, (tb.add (k * 4)).off + 2, none⟩ = some (.int .i64 a) ∧ w.cell? ⟨(tb.add (k * 4)).block, (tb.add (k * 4)).off + 3, none⟩ = some (.int .i64 (putE l t a)) ∧ Bls w s l ∧ l.length ≤ 1000000
theorem row_got {w : World} {b : Nat} {vs : Array Value} {T A B : List Bool} {tb : Addr} (hT : T = List.replicate 200 true) (hA : A = List.replicate 4096 false) (hB : B = List.replicate 4097 false) (hb : Blk w b 27 vs) (hr : RowsL w vs.toList (rowsF T A B)) (htb : tb = ⟨b, 0, none⟩) : RowGot w tb := by
  intro k hk
  obtain ⟨l, t, a, e, hj⟩ : ∃ l t a e, (rowsF T A B)[k]? = some (l, t, a, e) := ⟨_, _, _, _, List.getElem?_eq_getElem (by rw [rowsF_length]; exact hk)⟩
  obtain ⟨o1, o2⟩ := rowsF_put hT hA hB _ (List.mem_of_getElem? hj)
  obtain ⟨s, e0, e1, e2, e3, e4⟩ := rows_list _ _ hr k l t a e hj
  replace o1 : putE l t a = e := o1
  have c0 := hb.cell (4 * k) (by simpa using e0)
  have c1 := hb.cell (4 * k + 1) (by simpa using e1)
  have c2 := hb.cell (4 * k + 2) (by simpa using e2)
  have c3 := hb.cell (4 * k + 3) (by simpa using e3)
  rw [← o1] at c3
  rw [Nat.mul_comm 4 k] at c0 c1 c2 c3
  refine ⟨s, l, t, a, ?_, ?_, ?_, ?_, e4, o2⟩ <;> rw [htb] <;> unfold Addr.add <;> split
  · rename_i h0; rw [h0] at c0; exact c0
  · simpa using c0
  · rename_i h0; rw [h0] at c1; exact c1
  · simpa using c1
  · rename_i h0; rw [h0] at c2; exact c2
  · simpa using c2
  · rename_i h0; rw [h0] at c3; exact c3
  · simpa using c3
set_option maxRecDepth 100000 in
set_option maxHeartbeats 4000000 in
set_option linter.unusedSimpArgs false in
theorem known_walk (w : World) (hm : Masks w) : Calls Tryd.prog 3 #[] w (TrueGot w) := by
  have HM := Lib.hid hm
  clear hm
  obtain ⟨N, hN⟩ : ∃ N : Nat, N = 200 := ⟨_, rfl⟩
  have HN := Lib.hid hN
  have hmk : ∀ w' : World, (Instr.makeSlice 23 (.int .i64 200) (.int .i64 200)).run Tryd.prog w' = .ok (.slice (some ⟨w'.heap.size, 0, none⟩) 200 200) (w'.alloc (.cells (bools (firstF (fun _ => true) N 0)).toArray 4)) := by
    intro w'
    rw [firstF_zero, hN]
    exact make_bools 200 200 w' rfl (by omega)
  clear hN
  go_enter Tryd.func3, Tryd.ntmps3
  go_wp2_with (go_at_call 7; (with_reducible refine (works_any _ HM.out).mono ?_); rintro e w0 ⟨rfl, g0⟩)
  have kb0 := Blk.mk w0 4 (bools (firstF (fun _ => true) N 0)).toArray
  have ga := gb_trans g0 (gb_alloc w0 (.cells (bools (firstF (fun _ => true) N 0)).toArray 4) none)
  have hlw := g0.size
  generalize w0.alloc (.cells (bools (firstF (fun _ => true) N 0)).toArray 4) = w1 at kb0 ga ⊢
  generalize w0.heap.size = b at kb0 hlw ⊢
  go_loopw [2] (fun v wr => ∃ k : Nat, k ≤ N ∧ v = .int .i64 k ∧ Blk wr b 4 (bools (firstF (fun _ => true) N k)).toArray ∧ w.grownBy wr none) (fun v _ => N - (intOf v).toNat)
  case atStart => exact ⟨0, by omega, rfl, kb0, ga⟩
  case round =>
    obtain ⟨k, hk, rfl, kb, hg⟩ := hrel
    by_cases hlt : k < N
    · have hlt' : (k : Int) < 200 := by have := HN.out; omega
      have hk0 : (0 : Int) ≤ (k : Int) := by omega
      have d0 := kb.cell k (firstF_at _ N k hlt)
      have e0 := kb.free k
      have hn1 : Blk (wr.setCell ⟨b, k, none⟩ (.bool true)) b 4 (bools (firstF (fun _ => true) N (k + 1))).toArray := by rw [← firstF_set]; exact kb.set k _
      have hn2 := gb_step hg (gb_set wr b k none (.bool true)) hlw
      clear kb hg kb0 ga
      go_wp2
      go_roundw
      case rel => exact ⟨k + 1, by omega, by go_num, hn1, hn2⟩
      case measure => simp [intOf]; omega
    · have hkN : k = N := by omega
      have hd : decide ((k : Int) < 200) = false := decide_eq_false (by have := HN.out; omega)
      rw [hkN] at kb
      have HMd := Lib.hid (made_of HN.out kb hg)
      clear kb hg kb0 ga hmk hkN
      go_wp2_with fail
      obtain ⟨T, hT0⟩ : ∃ T, T = List.replicate 200 true := ⟨_, rfl⟩
      obtain ⟨A, hA0⟩ : ∃ A, A = List.replicate 4096 false := ⟨_, rfl⟩
      obtain ⟨B, hB0⟩ : ∃ B, B = List.replicate 4097 false := ⟨_, rfl⟩
      have HT := Lib.hid hT0
      have HA := Lib.hid hA0
      have HB := Lib.hid hB0
      clear hT0 hA0 hB0
      refine wp_region_any (by kernel_rfl) ?_
      have hM3 : Bls { wr with drawn := wr.drawn + 1 } (.slice (some ⟨b, 0, none⟩) 200 200) T := by rw [HT.out]; exact HMd.out.1
      have gM : w.grownBy { wr with drawn := wr.drawn + 1 } none := gb_trans HMd.out.2 ⟨rfl, rfl, rfl, Nat.le_refl _, fun _ _ _ => rfl⟩
      clear HMd
      refine region_kds _ _ 28 38 (kdsF T A B) (fun a w => a.tmps.getD 1 undef = .slice (some ⟨b, 0, none⟩) 200 200 ∧ Bls w (.slice (some ⟨b, 0, none⟩) 200 200) T) rfl (by simp) (hops_of (by kernel_rfl)) ?hC ?hstep ?hend
      case hC =>
        intro a w hout hw
        exact ⟨hout 1 (Or.inl (by omega)), hM3.keep0 hw⟩
      case hstep =>
        refine each_cons 0 1 rfl ?_ ?_
        · rintro w a hdep ⟨h1, hT⟩ K hK
          exact op_build rfl [(1, .int .i64 (-1))] (by simp only [List.map_toArray, List.map_cons, List.map_nil, Act.eval]) #[.slice none 0 0, .int .i64 (-1), .int .i64 0] (by kernel_rfl) (hK _ _ ⟨_, rfl, Sl.nil _ _⟩ (gb_refl _ _))
        refine each_cons 1 2 rfl ?_ ?_
        · rintro w a hdep ⟨h1, hT⟩ K hK
          exact st_row 0 rfl (hdep ⟨0, .data⟩ (by simp) rfl) hK
        refine each_cons 2 3 rfl ?_ ?_
        · rintro w a hdep ⟨h1, hT⟩ K hK
          exact op_build rfl [] (by simp) #[.slice none 0 0, .int .i64 0, .int .i64 0] (by kernel_rfl) (hK _ _ ⟨_, rfl, Sl.nil _ _⟩ (gb_refl _ _))
        refine each_cons 3 4 rfl ?_ ?_
        · rintro w a hdep ⟨h1, hT⟩ K hK
          exact st_row 2 rfl (hdep ⟨2, .data⟩ (by simp) rfl) hK
        refine each_cons 4 5 rfl ?_ ?_
        · rintro w a hdep ⟨h1, hT⟩ K hK
          exact op_build rfl [(1, .int .i64 (-1)), (2, .int .i64 1)] (by simp only [List.map_toArray, List.map_cons, List.map_nil, Act.eval]) #[.slice none 0 0, .int .i64 (-1), .int .i64 1] (by kernel_rfl) (hK _ _ ⟨_, rfl, Sl.nil _ _⟩ (gb_refl _ _))
        refine each_cons 5 6 rfl ?_ ?_
        · rintro w a hdep ⟨h1, hT⟩ K hK
          exact st_row 2 rfl (hdep ⟨4, .data⟩ (by simp) rfl) hK
        refine each_cons 6 7 rfl ?_ ?_
        · rintro w a hdep ⟨h1, hT⟩ K hK
          exact op_build rfl [(1, .int .i64 (-2))] (by simp only [List.map_toArray, List.map_cons, List.map_nil, Act.eval]) #[.slice none 0 0, .int .i64 (-2), .int .i64 0] (by kernel_rfl) (hK _ _ ⟨_, rfl, Sl.nil _ _⟩ (gb_refl _ _))
        refine each_cons 7 8 rfl ?_ ?_
        · rintro w a hdep ⟨h1, hT⟩ K hK
          exact st_row 2 rfl (hdep ⟨6, .data⟩ (by simp) rfl) hK
        refine each_cons 8 9 rfl ?_ ?_
        · rintro w a hdep ⟨h1, hT⟩ K hK
          exact st_one false rfl hK
        refine each_cons 9 10 rfl ?_ ?_
        · rintro w a hdep ⟨h1, hT⟩ K hK
          exact st_fate1 0 rfl (hdep ⟨8, .data⟩ (by simp) rfl) hK
        refine each_cons 10 11 rfl ?_ ?_
        · rintro w a hdep ⟨h1, hT⟩ K hK
          exact st_row 2 rfl (hdep ⟨9, .data⟩ (by simp) rfl) hK
        refine each_cons 11 12 rfl ?_ ?_
        · rintro w a hdep ⟨h1, hT⟩ K hK
          exact st_one true rfl hK
        refine each_cons 12 13 rfl ?_ ?_
        · rintro w a hdep ⟨h1, hT⟩ K hK
          exact st_fate1 1 rfl (hdep ⟨11, .data⟩ (by simp) rfl) hK
        refine each_cons 13 14 rfl ?_ ?_
        · rintro w a hdep ⟨h1, hT⟩ K hK
          exact st_row 2 rfl (hdep ⟨12, .data⟩ (by simp) rfl) hK
        refine each_cons 14 15 rfl ?_ ?_
        · rintro w a hdep ⟨h1, hT⟩ K hK
          exact st_one true rfl hK
        refine each_cons 15 16 rfl ?_ ?_
        · rintro w a hdep ⟨h1, hT⟩ K hK
          exact st_fate2 256 rfl (hdep ⟨14, .data⟩ (by simp) rfl) hK
        refine each_cons 16 17 rfl ?_ ?_
        · rintro w a hdep ⟨h1, hT⟩ K hK
          exact st_row 0 rfl (hdep ⟨15, .data⟩ (by simp) rfl) hK
        refine each_cons 17 18 rfl ?_ ?_
        · rintro w a hdep ⟨h1, hT⟩ K hK
          exact st_one true rfl hK
        refine each_cons 18 19 rfl ?_ ?_
        · rintro w a hdep ⟨h1, hT⟩ K hK
          exact st_fate2 257 rfl (hdep ⟨17, .data⟩ (by simp) rfl) hK
        refine each_cons 19 20 rfl ?_ ?_
        · rintro w a hdep ⟨h1, hT⟩ K hK
          exact st_row 2 rfl (hdep ⟨18, .data⟩ (by simp) rfl) hK
        refine each_cons 20 21 rfl ?_ ?_
        · rintro w a hdep ⟨h1, hT⟩ K hK
          exact st_one true rfl hK
        refine each_cons 21 22 rfl ?_ ?_
        · rintro w a hdep ⟨h1, hT⟩ K hK
          exact st_fate2 (-1) rfl (hdep ⟨20, .data⟩ (by simp) rfl) hK
        refine each_cons 22 23 rfl ?_ ?_
        · rintro w a hdep ⟨h1, hT⟩ K hK
          exact st_row 2 rfl (hdep ⟨21, .data⟩ (by simp) rfl) hK
        refine each_cons 23 24 rfl ?_ ?_
        · rintro w a hdep ⟨h1, hT⟩ K hK
          exact op_move rfl (hK _ _ (by show Bls w (a.tmps.getD 1 undef) T; rw [h1]; exact hT) (gb_refl _ _))
        refine each_cons 24 25 rfl ?_ ?_
        · rintro w a hdep ⟨h1, hT⟩ K hK
          exact st_fate1 127 rfl (hdep ⟨23, .data⟩ (by simp) rfl) hK
        refine each_cons 25 26 rfl ?_ ?_
        · rintro w a hdep ⟨h1, hT⟩ K hK
          exact st_row 0 rfl (hdep ⟨24, .data⟩ (by simp) rfl) hK
        refine each_cons 26 27 rfl ?_ ?_
        · rintro w a hdep ⟨h1, hT⟩ K hK
          exact op_move rfl (hK _ _ (by show Bls w (a.tmps.getD 1 undef) T; rw [h1]; exact hT) (gb_refl _ _))
        refine each_cons 27 28 rfl ?_ ?_
        · rintro w a hdep ⟨h1, hT⟩ K hK
          exact st_fate1 128 rfl (hdep ⟨26, .data⟩ (by simp) rfl) hK
        refine each_cons 28 29 rfl ?_ ?_
        · rintro w a hdep ⟨h1, hT⟩ K hK
          exact st_row 4 rfl (hdep ⟨27, .data⟩ (by simp) rfl) hK
        refine each_cons 29 30 rfl ?_ ?_
        · rintro w a hdep ⟨h1, hT⟩ K hK
          exact st_make 4096 rfl rfl (by decide) HA.out hK
        refine each_cons 30 31 rfl ?_ ?_
        · rintro w a hdep ⟨h1, hT⟩ K hK
          exact st_fate1 (-1) rfl (hdep ⟨29, .data⟩ (by simp) rfl) hK
        refine each_cons 31 32 rfl ?_ ?_
        · rintro w a hdep ⟨h1, hT⟩ K hK
          exact st_row 0 rfl (hdep ⟨30, .data⟩ (by simp) rfl) hK
        refine each_cons 32 33 rfl ?_ ?_
        · rintro w a hdep ⟨h1, hT⟩ K hK
          exact st_make 4097 rfl rfl (by decide) HB.out hK
        refine each_cons 33 34 rfl ?_ ?_
        · rintro w a hdep ⟨h1, hT⟩ K hK
          exact st_fate1 (-1) rfl (hdep ⟨32, .data⟩ (by simp) rfl) hK
        refine each_cons 34 35 rfl ?_ ?_
        · rintro w a hdep ⟨h1, hT⟩ K hK
          exact st_row 4 rfl (hdep ⟨33, .data⟩ (by simp) rfl) hK
        refine each_cons 35 36 rfl ?_ ?_
        · rintro w a hdep ⟨h1, hT⟩ K hK
          obtain ⟨s0, e0, f0⟩ := hdep ⟨1, .data⟩ (by simp) rfl
          replace e0 : a.tmps.getD 29 undef = _ := e0
          obtain ⟨s1, e1, f1⟩ := hdep ⟨3, .data⟩ (by simp) rfl
          replace e1 : a.tmps.getD 31 undef = _ := e1
          obtain ⟨s2, e2, f2⟩ := hdep ⟨5, .data⟩ (by simp) rfl
          replace e2 : a.tmps.getD 33 undef = _ := e2
          obtain ⟨s3, e3, f3⟩ := hdep ⟨7, .data⟩ (by simp) rfl
          replace e3 : a.tmps.getD 35 undef = _ := e3
          obtain ⟨s4, e4, f4⟩ := hdep ⟨10, .data⟩ (by simp) rfl
          replace e4 : a.tmps.getD 38 undef = _ := e4
          obtain ⟨s5, e5, f5⟩ := hdep ⟨13, .data⟩ (by simp) rfl
          replace e5 : a.tmps.getD 41 undef = _ := e5
          obtain ⟨s6, e6, f6⟩ := hdep ⟨16, .data⟩ (by simp) rfl
          replace e6 : a.tmps.getD 44 undef = _ := e6
          obtain ⟨s7, e7, f7⟩ := hdep ⟨19, .data⟩ (by simp) rfl
          replace e7 : a.tmps.getD 47 undef = _ := e7
          obtain ⟨s8, e8, f8⟩ := hdep ⟨22, .data⟩ (by simp) rfl
          replace e8 : a.tmps.getD 50 undef = _ := e8
          obtain ⟨s9, e9, f9⟩ := hdep ⟨25, .data⟩ (by simp) rfl
          replace e9 : a.tmps.getD 53 undef = _ := e9
          obtain ⟨s10, e10, f10⟩ := hdep ⟨28, .data⟩ (by simp) rfl
          replace e10 : a.tmps.getD 56 undef = _ := e10
          obtain ⟨s11, e11, f11⟩ := hdep ⟨31, .data⟩ (by simp) rfl
          replace e11 : a.tmps.getD 59 undef = _ := e11
          obtain ⟨s12, e12, f12⟩ := hdep ⟨34, .data⟩ (by simp) rfl
          replace e12 : a.tmps.getD 62 undef = _ := e12
          refine op_buildSlice (e := 27) rfl (by kernel_rfl) [(0, .agg #[s0, .int .i64 (-1), .int .i64 0, .int .i64 0]), (1, .agg #[s1, .int .i64 0, .int .i64 0, .int .i64 2]), (2, .agg #[s2, .int .i64 (-1), .int .i64 1, .int .i64 2]), (3, .agg #[s3, .int .i64 (-2), .int .i64 0, .int .i64 2]), (4, .agg #[s4, .int .i64 0, .int .i64 0, .int .i64 2]), (5, .agg #[s5, .int .i64 1, .int .i64 0, .int .i64 2]), (6, .agg #[s6, .int .i64 0, .int .i64 256, .int .i64 0]), (7, .agg #[s7, .int .i64 0, .int .i64 257, .int .i64 2]), (8, .agg #[s8, .int .i64 0, .int .i64 (-1), .int .i64 2]), (9, .agg #[s9, .int .i64 127, .int .i64 0, .int .i64 0]), (10, .agg #[s10, .int .i64 128, .int .i64 0, .int .i64 4]), (11, .agg #[s11, .int .i64 (-1), .int .i64 0, .int .i64 0]), (12, .agg #[s12, .int .i64 (-1), .int .i64 0, .int .i64 4])] (by simp only [List.map_toArray, List.map_cons, List.map_nil, Act.eval, e0, e1, e2, e3, e4, e5, e6, e7, e8, e9, e10, e11, e12]) #[s0, .int .i64 (-1), .int .i64 0, .int .i64 0, s1, .int .i64 0, .int .i64 0, .int .i64 2, s2, .int .i64 (-1), .int .i64 1, .int .i64 2, s3, .int .i64 (-2), .int .i64 0, .int .i64 2, s4, .int .i64 0, .int .i64 0, .int .i64 2, s5, .int .i64 1, .int .i64 0, .int .i64 2, s6, .int .i64 0, .int .i64 256, .int .i64 0, s7, .int .i64 0, .int .i64 257, .int .i64 2, s8, .int .i64 0, .int .i64 (-1), .int .i64 2, s9, .int .i64 127, .int .i64 0, .int .i64 0, s10, .int .i64 128, .int .i64 0, .int .i64 4, s11, .int .i64 (-1), .int .i64 0, .int .i64 0, s12, .int .i64 (-1), .int .i64 0, .int .i64 4] (by kernel_rfl) (hK _ _ ⟨_, _, rfl, Blk.mk _ _ _, ?_⟩ (gb_alloc _ _ _))
          exact ⟨⟨rfl, rfl, rfl, f0.keep0 (gb_alloc _ _ _)⟩, ⟨rfl, rfl, rfl, f1.keep0 (gb_alloc _ _ _)⟩, ⟨rfl, rfl, rfl, f2.keep0 (gb_alloc _ _ _)⟩, ⟨rfl, rfl, rfl, f3.keep0 (gb_alloc _ _ _)⟩, ⟨rfl, rfl, rfl, f4.keep0 (gb_alloc _ _ _)⟩, ⟨rfl, rfl, rfl, f5.keep0 (gb_alloc _ _ _)⟩, ⟨rfl, rfl, rfl, f6.keep0 (gb_alloc _ _ _)⟩, ⟨rfl, rfl, rfl, f7.keep0 (gb_alloc _ _ _)⟩, ⟨rfl, rfl, rfl, f8.keep0 (gb_alloc _ _ _)⟩, ⟨rfl, rfl, rfl, f9.keep0 (gb_alloc _ _ _)⟩, ⟨rfl, rfl, rfl, f10.keep0 (gb_alloc _ _ _)⟩, ⟨rfl, rfl, rfl, f11.keep0 (gb_alloc _ _ _)⟩, ⟨rfl, rfl, rfl, f12.keep0 (gb_alloc _ _ _)⟩, trivial⟩
        refine each_cons 36 37 rfl ?_ ?_
        · rintro w a hdep ⟨h1, hT⟩ K hK
          obtain ⟨b', vs, e0, _⟩ := hdep ⟨35, .data⟩ (by simp) rfl
          replace e0 : a.tmps.getD 63 undef = _ := e0
          exact op_len rfl e0 (hK _ _ rfl (gb_refl _ _))
        refine each_cons 37 38 rfl ?_ ?_
        · rintro w a hdep ⟨h1, hT⟩ K hK
          exact op_move rfl (hK _ _ rfl (gb_refl _ _))
        exact each_nil _
      case hend =>
        intro a wq hsz hdf hout hall hw
        obtain ⟨tm, df⟩ := a
        have ht : tm = List.toArray [_, _, _, _, _, _, _, _, _, _, _, _, _, _, _, _, _, _, _, _, _, _, _, _, _, _, _, _, tm.getD (28 + 0) undef, tm.getD (28 + 1) undef, tm.getD (28 + 2) undef, tm.getD (28 + 3) undef, tm.getD (28 + 4) undef, tm.getD (28 + 5) undef, tm.getD (28 + 6) undef, tm.getD (28 + 7) undef, tm.getD (28 + 8) undef, tm.getD (28 + 9) undef, tm.getD (28 + 10) undef, tm.getD (28 + 11) undef, tm.getD (28 + 12) undef, tm.getD (28 + 13) undef, tm.getD (28 + 14) undef, tm.getD (28 + 15) undef, tm.getD (28 + 16) undef, tm.getD (28 + 17) undef, tm.getD (28 + 18) undef, tm.getD (28 + 19) undef, tm.getD (28 + 20) undef, tm.getD (28 + 21) undef, tm.getD (28 + 22) undef, tm.getD (28 + 23) undef, tm.getD (28 + 24) undef, tm.getD (28 + 25) undef, tm.getD (28 + 26) undef, tm.getD (28 + 27) undef, tm.getD (28 + 28) undef, tm.getD (28 + 29) undef, tm.getD (28 + 30) undef, tm.getD (28 + 31) undef, tm.getD (28 + 32) undef, tm.getD (28 + 33) undef, tm.getD (28 + 34) undef, tm.getD (28 + 35) undef, tm.getD (28 + 36) undef, tm.getD (28 + 37) undef, _, _, _, _, _, _, _, _, _, _, _, _, _, _, _, _, _, _, _, _, _, _, _, _, _, _, _, _, _, _, _, _, _, _, _, _, _, _, _, _, _, _, _, _, _, _, _, _, _, _, _, _, _, _, _, _, _, _, _, _, _, _, _, _, _, _, _, _, _, _, _, _, _, _, _, _, _, _, _, _, _, _, _, _, _, _, _, _, _, _, _, _, _, _, _, _, _, _, _, _, _, _, _, _, _, _, _, _, _, _, _, _, _, _, _, _, _, _, _, _, _, _] := arr_lit tm _ 28 38 hsz (by simp) hout
        obtain ⟨b', vs, e35, hblk, hrows⟩ := hall 35 (by omega)
        have e36 : tm.getD (28 + 36) undef = .int .i64 13 := hall 36 (by omega)
        have e37 : tm.getD (28 + 37) undef = .int .i64 0 := hall 37 (by omega)
        replace e35 : tm.getD (28 + 35) undef = .slice (some ⟨b', 0, none⟩) 13 13 := e35
        rw [e35, e36, e37] at ht
        clear hall hout hsz e35 e36 e37
        generalize tm.getD (28 + 0) undef = v28 at ht
        generalize tm.getD (28 + 1) undef = v29 at ht
        generalize tm.getD (28 + 2) undef = v30 at ht
        generalize tm.getD (28 + 3) undef = v31 at ht
        generalize tm.getD (28 + 4) undef = v32 at ht
        generalize tm.getD (28 + 5) undef = v33 at ht
        generalize tm.getD (28 + 6) undef = v34 at ht
        generalize tm.getD (28 + 7) undef = v35 at ht
        generalize tm.getD (28 + 8) undef = v36 at ht
        generalize tm.getD (28 + 9) undef = v37 at ht
        generalize tm.getD (28 + 10) undef = v38 at ht
        generalize tm.getD (28 + 11) undef = v39 at ht
        generalize tm.getD (28 + 12) undef = v40 at ht
        generalize tm.getD (28 + 13) undef = v41 at ht
        generalize tm.getD (28 + 14) undef = v42 at ht
        generalize tm.getD (28 + 15) undef = v43 at ht
        generalize tm.getD (28 + 16) undef = v44 at ht
        generalize tm.getD (28 + 17) undef = v45 at ht
        generalize tm.getD (28 + 18) undef = v46 at ht
        generalize tm.getD (28 + 19) undef = v47 at ht
        generalize tm.getD (28 + 20) undef = v48 at ht
        generalize tm.getD (28 + 21) undef = v49 at ht
        generalize tm.getD (28 + 22) undef = v50 at ht
        generalize tm.getD (28 + 23) undef = v51 at ht
        generalize tm.getD (28 + 24) undef = v52 at ht
        generalize tm.getD (28 + 25) undef = v53 at ht
        generalize tm.getD (28 + 26) undef = v54 at ht
        generalize tm.getD (28 + 27) undef = v55 at ht
        generalize tm.getD (28 + 28) undef = v56 at ht
        generalize tm.getD (28 + 29) undef = v57 at ht
        generalize tm.getD (28 + 30) undef = v58 at ht
        generalize tm.getD (28 + 31) undef = v59 at ht
        generalize tm.getD (28 + 32) undef = v60 at ht
        generalize tm.getD (28 + 33) undef = v61 at ht
        generalize tm.getD (28 + 34) undef = v62 at ht
        replace hdf : df = [] := hdf
        simp only [] at ht
        subst ht hdf
        obtain ⟨ab, hab⟩ : ∃ ab : Addr, ab = ⟨b', 0, none⟩ := ⟨_, rfl⟩
        have HR := Lib.hid (row_got HT.out HA.out HB.out hblk hrows hab)
        rw [← hab]
        clear hrows hblk hab
        have GW := gb_trans gM hw
        have HMq := Lib.hid (HM.out.keep0 GW)
        clear hw hM3 gM
        go_wp2_with fail
        go_loopw [65] (fun v wr => ∃ k : Nat, k ≤ 13 ∧ v = .int .i64 ((k : Nat) : Int) ∧ wq.grownBy wr none) (fun i _ => 13 - (intOf i).toNat)
        case atStart => exact ⟨0, by omega, rfl, gb_refl _ _⟩
        case round =>
          obtain ⟨k, hk, rfl, hgr⟩ := hrel
          by_cases hlt : k < 13
          · obtain ⟨s, l, t, x, c0, c1, c2, c3, hF, hl⟩ := HR.out k hlt
            obtain ⟨q, hq⟩ : ∃ q : Int, q = putE l t x := ⟨_, rfl⟩
            have HQ := Lib.hid hq
            rw [← hq] at c3
            clear hq
            have hF0 := hF
            obtain ⟨so, sc, rfl, _⟩ := hF0
            have c0' := hgr.cell c0 (by simp)
            have c1' := hgr.cell c1 (by simp)
            have c2' := hgr.cell c2 (by simp)
            have c3' := hgr.cell c3 (by simp)
            have hF1 := (hF.keep0 hgr).keep0 (gb_alloc wr (.cells #[.slice so l.length sc, .int .i64 t, .int .i64 x, .int .i64 q] 27) none)
            have hB := Blk.mk wr 27 #[.slice so l.length sc, .int .i64 t, .int .i64 x, .int .i64 q]
            have hM1 := (HMq.out.keep0 hgr).keep0 (gb_alloc wr (.cells #[.slice so l.length sc, .int .i64 t, .int .i64 x, .int .i64 q] 27) none)
            have hk13 : (k : Int) < 13 := by omega
            clear c0 c1 c2 c3 hF
            go_wp2_with fail
            ((with_reducible refine (put_any _ l t x _ hM1 hF1 hl).mono ?_); rintro e w3 ⟨v3, rfl, _, g3⟩)
            have d3 := (hB.keep0 g3).cell 3 rfl
            rw [← HQ.out]
            have gE : wq.grownBy w3 none := gb_trans (gb_trans hgr (gb_alloc _ _ _)) g3
            clear hM1 hF1 hB hgr g3
            go_wp2_with fail
            go_roundw
            case rel => exact ⟨k + 1, by omega, by go_num, gE⟩
            case measure => simp [intOf]; omega
          · obtain rfl : k = 13 := by omega
            have GR := gb_trans GW hgr
            have HMr := Lib.hid (HM.out.keep0 GR)
            clear hgr HR HMq GW HT HA HB
            have b1 := Blk.mk wr 5 #[.int .u8 5, .int .u8 128, .int .u8 0, .int .u8 0]
            have a1 := gb_alloc wr (.cells #[.int .u8 5, .int .u8 128, .int .u8 0, .int .u8 0] 5) none
            go_wp2_with fail
            ((with_reducible refine (read_k _ [5, 128, 0, 0] 3 _ 3 (-1) _ _ (HMr.out.keep0 a1) (bts_lit (n := 4) b1 rfl rfl) (by decide) (by decide) rfl l_a k_a.2 rfl).mono ?_); rintro e x1 ⟨aoa, capa, rfl, hba, g1⟩)
            obtain ⟨pa, rfl, ca⟩ := a_first hba rfl
            replace g1 := gb_trans a1 g1
            have HCa := Lib.hid ca
            clear b1 a1 hba ca
            generalize atF [5, 128, 0, 0] (manyN 3) = ta
            have b2 := Blk.mk x1 5 #[.int .u8 5, .int .u8 1, .int .u8 0]
            have a2 := gb_alloc x1 (.cells #[.int .u8 5, .int .u8 1, .int .u8 0] 5) none
            go_wp2_with fail
            ((with_reducible refine (read_k _ [5, 1, 0] 3 _ 3 (-1) _ _ ((HMr.out.keep0 g1).keep0 a2) (bts_lit (n := 3) b2 rfl rfl) (by decide) (by decide) rfl l_b k_b rfl).mono ?_); rintro e x2 ⟨aob, capb, rfl, _, g2⟩)
            replace g2 := gb_trans a2 g2
            clear b2 a2
            generalize atF [5, 1, 0] (manyN 3) = tb
            have b3 := Blk.mk x2 5 #[.int .u8 2, .int .u8 3, .int .u8 1, .int .u8 1]
            have a3 := gb_alloc x2 (.cells #[.int .u8 2, .int .u8 3, .int .u8 1, .int .u8 1] 5) none
            go_wp2_with fail
            ((with_reducible refine (read_k _ [2, 3, 1, 1] 2 _ 2 1 0 _ (((HMr.out.keep0 g1).keep0 g2).keep0 a3) (bts_lit (n := 4) b3 rfl rfl) (by decide) (by decide) rfl l_c k_c.1 k_c.2.symm).mono ?_); rintro e x3 ⟨aoc, capc, rfl, _, g3⟩)
            replace g3 := gb_trans a3 g3
            have GR3 := gb_trans GR (gb_trans g1 (gb_trans g2 g3))
            replace HCa := Lib.hid ((g2.cell HCa.out (by simp)) |> fun h => g3.cell h (by simp))
            clear b3 a3 g1 g2 g3 GR HMr
            go_wp2_with fail
            obtain ⟨x4, hx4, hs4, k7, k8, k9, g4⟩ := three_new x3 #[.slice (some pa) 3 capa, .int .i64 (-1), .int .i64 ta] #[.slice aob 3 capb, .int .i64 (-1), .int .i64 tb] #[.slice aoc 2 capc, .int .i64 1, .int .i64 0] 25
            rw [← hx4, ← hs4]
            clear hx4 hs4
            have GR4 := gb_trans GR3 g4
            replace HCa := Lib.hid (g4.cell HCa.out (by simp))
            generalize x3.heap.size = n3 at k7 k8 k9 ⊢
            have HK := Lib.hid (And.intro k7 (And.intro k8 k9))
            clear k7 k8 k9 g4 GR3
            have b1 := Blk.mk x4 5 #[.int .u8 255]
            have a1 := gb_alloc x4 (.cells #[.int .u8 255] 5) none
            ((with_reducible refine (read_k _ [255] (-1) _ 0 (-1) _ _ (HM.out.keep0 (gb_trans GR4 a1)) (bts_lit (n := 1) b1 rfl rfl) (by decide) (by decide) rfl l_d k_d.2 rfl).mono ?_); rintro e x5 ⟨aod, capd, rfl, _, g5⟩)
            replace g5 := gb_trans a1 g5
            clear b1 a1
            generalize atF [255] (manyN (-1)) = td
            go_wp2_with fail
            ((with_reducible refine (read_k _ [] 5000 _ 4096 _ _ _ (HM.out.keep0 (gb_trans GR4 g5)) (bts_nil _) (by decide) (by decide) rfl l_g rfl rfl).mono ?_); rintro e x6 ⟨aog, capg, rfl, _, g6⟩)
            generalize tornF [] (manyN 5000) = tg
            generalize atF [] (manyN 5000) = yg
            replace g6 := gb_trans g5 g6
            have b1 := Blk.mk x6 5 #[.int .u8 0, .int .u8 0, .int .u8 0, .int .u8 9]
            have a1 := gb_alloc x6 (.cells #[.int .u8 0, .int .u8 0, .int .u8 0, .int .u8 9] 5) none
            go_wp2_with fail
            ((with_reducible refine (read_k _ [0, 0, 0, 9] 8 _ 8 (-1) _ _ (HM.out.keep0 (gb_trans (gb_trans GR4 g6) a1)) (bts_lit (n := 4) b1 rfl rfl) (by decide) (by decide) rfl l_h k_h rfl).mono ?_); rintro e x7 ⟨aoh, caph, rfl, _, g7⟩)
            generalize atF [0, 0, 0, 9] (manyN 8) = th
            replace g7 := gb_trans g6 (gb_trans a1 g7)
            clear b1 a1 g5 g6
            obtain ⟨S1, hS1⟩ : ∃ X, X = secS 120 := ⟨_, rfl⟩
            obtain ⟨S2, hS2⟩ : ∃ X, X = secS 121 := ⟨_, rfl⟩
            obtain ⟨S3, hS3⟩ : ∃ X, X = secS 122 := ⟨_, rfl⟩
            obtain ⟨S0, hS0⟩ : ∃ X, X = secS 97 := ⟨_, rfl⟩
            have HS := Lib.hid (And.intro hS1 (And.intro hS2 (And.intro hS3 hS0)))
            clear hS1 hS2 hS3 hS0
            go_wp2_with fail
            obtain ⟨x8, hx8, hs8, k10, k11, k12, g8⟩ := three_new x7 #[.slice aod 0 capd, .int .i64 (-1), .int .i64 td] #[.slice aog 4096 capg, .int .i64 tg, .int .i64 yg] #[.slice aoh 8 caph, .int .i64 (-1), .int .i64 th] 25
            rw [← hx8]
            clear hx8 hs8
            generalize x7.heap.size = n7 at k10 k11 k12 ⊢
            have HL := Lib.hid (And.intro k10 (And.intro k11 k12))
            replace g8 := gb_trans g7 g8
            clear k10 k11 k12 g7
            ((with_reducible refine (sec_k 120 120 S1 _ rfl HS.out.1).mono ?_); rintro e x9 ⟨rfl, g9⟩)
            go_wp2_with fail
            ((with_reducible refine (sec_k 121 121 S2 _ rfl HS.out.2.1).mono ?_); rintro e x10 ⟨rfl, g10⟩)
            go_wp2_with fail
            ((with_reducible refine (sec_k 122 122 S3 _ rfl HS.out.2.2.1).mono ?_); rintro e x11 ⟨rfl, g11⟩)
            have b1 := Blk.mk x11 35 #[.int .i64 0, .string S1, .int .i64 1, .string S2, .int .i64 (-1), .string S3, .int .i64 0, .string ⟨#[115, 104, 111, 114, 116]⟩]
            have a1 := gb_alloc x11 (.cells #[.int .i64 0, .string S1, .int .i64 1, .string S2, .int .i64 (-1), .string S3, .int .i64 0, .string ⟨#[115, 104, 111, 114, 116]⟩] 35) none
            go_wp2_with fail
            have hW := wts_lit (n := 4) (l := [(0, S1), (1, S2), (-1, S3), (0, shortS)]) b1 rfl rfl
            ((with_reducible refine (sec_k 97 97 S0 _ rfl HS.out.2.2.2).mono ?_); rintro e x13 ⟨rfl, g13⟩)
            have GW13 := gb_trans GR4 (gb_trans g8 (gb_trans g9 (gb_trans g10 (gb_trans g11 (gb_trans a1 g13)))))
            have HWr := Lib.hid (hW.keep0 g13)
            have HG := Lib.hid (gb_trans g9 (gb_trans g10 (gb_trans g11 (gb_trans a1 g13))))
            have HG4 := Lib.hid g8
            clear hW b1 a1 g9 g10 g11 g13 g8
            generalize x11.heap.size = n11 at HWr ⊢
            have b1 := Blk.mk x13 9 #[.string S0]
            have a1 := gb_alloc x13 (.cells #[.string S0] 9) none
            go_wp2_with fail
            ((with_reducible refine (whole_k 4 4 _ (by decide) (by decide) k_g.2.2).mono ?_); rintro e x14 ⟨aow, capw, rfl, hbw, g14⟩)
            have hS14 := (sts_lit (n := 1) (l := [S0]) b1 rfl rfl).keep0 g14
            have hW14 := HWr.out.keep0 (gb_trans a1 g14)
            replace g14 := gb_trans a1 g14
            clear b1 a1
            go_wp2_with fail
            ((with_reducible refine (after_k _ _ _ [S0] [(0, S1), (1, S2), (-1, S3), (0, shortS)] (List.replicate 4 true) (-1) 0 S1 _ hS14 hW14 hbw (by decide) (by simp) (by simp) (by rw [HS.out.2.2.2]; exact whole97) (by decide) (by decide) (by rw [HS.out.1, HS.out.2.1, HS.out.2.2.1, HS.out.2.2.2]; exact after_all4)).mono ?_); rintro e x15 ⟨pL, capL, rfl, cL, g15⟩)
            replace g15 := gb_trans g14 g15
            have HCL := Lib.hid cL
            clear hS14 hW14 hbw cL g14
            go_wp2_with fail
            ((with_reducible refine (sec_k 97 97 S0 _ rfl HS.out.2.2.2).mono ?_); rintro e x16 ⟨rfl, g16⟩)
            have hW16 := HWr.out.keep0 (gb_trans g15 g16)
            have HG15 := Lib.hid g15
            have HG16 := Lib.hid g16
            clear g15 g16
            have b1 := Blk.mk x16 9 #[.string S0]
            have a1 := gb_alloc x16 (.cells #[.string S0] 9) none
            go_wp2_with fail
            have hS16 := sts_lit (n := 1) (l := [S0]) b1 rfl rfl
            ((with_reducible refine (after_k _ _ _ [S0] [(0, S1), (1, S2), (-1, S3), (0, shortS)] [] (-1) 0 S0 _ hS16 (hW16.keep0 a1) (bls_nil _) (by decide) (by simp) (by simp) (by rw [HS.out.2.2.2]; exact whole97) (by decide) (by decide) (by rw [HS.out.1, HS.out.2.1, HS.out.2.2.1, HS.out.2.2.2]; exact after_none4)).mono ?_); rintro e x17 ⟨pK, capK, rfl, cK, g17⟩)
            have HA17 := Lib.hid (gb_trans HG16.out (gb_trans a1 g17))
            have HB17 := Lib.hid (gb_trans HG.out (gb_trans HG15.out HA17.out))
            have HD17 := Lib.hid (gb_trans HG4.out HB17.out)
            have HCK := Lib.hid cK
            clear hS16 hW16 b1 a1 g17 cK
            have da0 := (HK.out.1.keep0 HD17.out).cell 0 rfl
            have da1 := (HK.out.1.keep0 HD17.out).cell 1 rfl
            have dap := HD17.out.cell HCa.out (by simp)
            have db1 := (HK.out.2.1.keep0 HD17.out).cell 1 rfl
            have dc1 := (HK.out.2.2.keep0 HD17.out).cell 1 rfl
            have dc2 := (HK.out.2.2.keep0 HD17.out).cell 2 rfl
            have dd0 := (HL.out.1.keep0 HB17.out).cell 0 rfl
            have dd1 := (HL.out.1.keep0 HB17.out).cell 1 rfl
            have dg0 := (HL.out.2.1.keep0 HB17.out).cell 0 rfl
            have dh1 := (HL.out.2.2.keep0 HB17.out).cell 1 rfl
            have dl := HA17.out.cell HCL.out (by simp)
            have dk := HCK.out
            go_wp2_with fail
            simp only [List.append]
            refine wp_region_noPanic ?_
            refine wp_region_held_drew (S := fun w' => (x17).grownBy w' none) (by kernel_rfl) (gb_drew _ _) (fun hHeld => ?_)
            refine wpAnyH_take (i := 0) (v := ?_) (List.getElem?_toArray.trans rfl) (by kernel_rfl) (by kernel_rfl) (by kernel_rfl) (fun _ _ _ h => h) (Or.inl ⟨by rfl, ?_⟩) hHeld ?_
            rotate_left
            · intro w' hSw; go_simp; try with_reducible rfl
            try simp only [Act.put, List.setIfInBounds_toArray, List.set_cons_zero, List.set_cons_succ]
            refine wpAnyH_take (i := 1) (v := ?_) (List.getElem?_toArray.trans rfl) (by kernel_rfl) (by kernel_rfl) (by kernel_rfl) (fun _ _ _ h => h) (Or.inl ⟨by rfl, ?_⟩) hHeld ?_
            rotate_left
            · intro w' hSw; have q0 := hSw.cell da1 (by simp); go_simp; try with_reducible rfl
            try simp only [Act.put, List.setIfInBounds_toArray, List.set_cons_zero, List.set_cons_succ]
            refine wpAnyH_take (i := 2) (v := ?_) (List.getElem?_toArray.trans rfl) (by kernel_rfl) (by kernel_rfl) (by kernel_rfl) (fun _ _ _ h => h) (Or.inl ⟨by rfl, ?_⟩) hHeld ?_
            rotate_left
            · intro w' hSw; go_simp; try with_reducible rfl
            try simp only [Act.put, List.setIfInBounds_toArray, List.set_cons_zero, List.set_cons_succ]
            refine wpAnyH_take (i := 3) (v := ?_) (List.getElem?_toArray.trans rfl) (by kernel_rfl) (by kernel_rfl) (by kernel_rfl) (fun _ _ _ h => h) (Or.inl ⟨by rfl, ?_⟩) hHeld ?_
            rotate_left
            · intro w' hSw; go_simp; try with_reducible rfl
            try simp only [Act.put, List.setIfInBounds_toArray, List.set_cons_zero, List.set_cons_succ]
            refine wpAnyH_take (i := 4) (v := ?_) (List.getElem?_toArray.trans rfl) (by kernel_rfl) (by kernel_rfl) (by kernel_rfl) (fun _ _ _ h => h) (Or.inl ⟨by rfl, ?_⟩) hHeld ?_
            rotate_left
            · intro w' hSw; go_simp; try with_reducible rfl
            try simp only [Act.put, List.setIfInBounds_toArray, List.set_cons_zero, List.set_cons_succ]
            refine wpAnyH_take (i := 5) (v := ?_) (List.getElem?_toArray.trans rfl) (by kernel_rfl) (by kernel_rfl) (by kernel_rfl) (fun _ _ _ h => h) (Or.inl ⟨by rfl, ?_⟩) hHeld ?_
            rotate_left
            · intro w' hSw; have q0 := hSw.cell da0 (by simp); go_simp; try with_reducible rfl
            try simp only [Act.put, List.setIfInBounds_toArray, List.set_cons_zero, List.set_cons_succ]
            refine wpAnyH_take (i := 6) (v := ?_) (List.getElem?_toArray.trans rfl) (by kernel_rfl) (by kernel_rfl) (by kernel_rfl) (fun _ _ _ h => h) (Or.inl ⟨by rfl, ?_⟩) hHeld ?_
            rotate_left
            · intro w' hSw; go_simp; try with_reducible rfl
            try simp only [Act.put, List.setIfInBounds_toArray, List.set_cons_zero, List.set_cons_succ]
            refine wpAnyH_take (i := 7) (v := ?_) (List.getElem?_toArray.trans rfl) (by kernel_rfl) (by kernel_rfl) (by kernel_rfl) (fun _ _ _ h => h) (Or.inl ⟨by rfl, ?_⟩) hHeld ?_
            rotate_left
            · intro w' hSw; have q0 := hSw.cell dap (by simp); go_simp; try with_reducible rfl
            try simp only [Act.put, List.setIfInBounds_toArray, List.set_cons_zero, List.set_cons_succ]
            refine wpAnyH_take (i := 8) (v := ?_) (List.getElem?_toArray.trans rfl) (by kernel_rfl) (by kernel_rfl) (by kernel_rfl) (fun _ _ _ h => h) (Or.inl ⟨by rfl, ?_⟩) hHeld ?_
            rotate_left
            · intro w' hSw; go_simp; try with_reducible rfl
            try simp only [Act.put, List.setIfInBounds_toArray, List.set_cons_zero, List.set_cons_succ]
            refine wpAnyH_take (i := 9) (v := ?_) (List.getElem?_toArray.trans rfl) (by kernel_rfl) (by kernel_rfl) (by kernel_rfl) (fun _ _ _ h => h) (Or.inl ⟨by rfl, ?_⟩) hHeld ?_
            rotate_left
            · intro w' hSw; go_simp; try with_reducible rfl
            try simp only [Act.put, List.setIfInBounds_toArray, List.set_cons_zero, List.set_cons_succ]
            refine wpAnyH_take (i := 10) (v := ?_) (List.getElem?_toArray.trans rfl) (by kernel_rfl) (by kernel_rfl) (by kernel_rfl) (fun _ _ _ h => h) (Or.inl ⟨by rfl, ?_⟩) hHeld ?_
            rotate_left
            · intro w' hSw; go_simp; try with_reducible rfl
            try simp only [Act.put, List.setIfInBounds_toArray, List.set_cons_zero, List.set_cons_succ]
            refine wpAnyH_take (i := 11) (v := ?_) (List.getElem?_toArray.trans rfl) (by kernel_rfl) (by kernel_rfl) (by kernel_rfl) (fun _ _ _ h => h) (Or.inl ⟨by rfl, ?_⟩) hHeld ?_
            rotate_left
            · intro w' hSw; have q0 := hSw.cell db1 (by simp); go_simp; try with_reducible rfl
            try simp only [Act.put, List.setIfInBounds_toArray, List.set_cons_zero, List.set_cons_succ]
            refine wpAnyH_take (i := 12) (v := ?_) (List.getElem?_toArray.trans rfl) (by kernel_rfl) (by kernel_rfl) (by kernel_rfl) (fun _ _ _ h => h) (Or.inl ⟨by rfl, ?_⟩) hHeld ?_
            rotate_left
            · intro w' hSw; go_simp; try with_reducible rfl
            try simp only [Act.put, List.setIfInBounds_toArray, List.set_cons_zero, List.set_cons_succ]
            refine wpAnyH_take (i := 13) (v := ?_) (List.getElem?_toArray.trans rfl) (by kernel_rfl) (by kernel_rfl) (by kernel_rfl) (fun _ _ _ h => h) (Or.inl ⟨by rfl, ?_⟩) hHeld ?_
            rotate_left
            · intro w' hSw; go_simp; try with_reducible rfl
            try simp only [Act.put, List.setIfInBounds_toArray, List.set_cons_zero, List.set_cons_succ]
            refine wpAnyH_take (i := 14) (v := ?_) (List.getElem?_toArray.trans rfl) (by kernel_rfl) (by kernel_rfl) (by kernel_rfl) (fun _ _ _ h => h) (Or.inl ⟨by rfl, ?_⟩) hHeld ?_
            rotate_left
            · intro w' hSw; go_simp; try with_reducible rfl
            try simp only [Act.put, List.setIfInBounds_toArray, List.set_cons_zero, List.set_cons_succ]
            refine wpAnyH_take (i := 15) (v := ?_) (List.getElem?_toArray.trans rfl) (by kernel_rfl) (by kernel_rfl) (by kernel_rfl) (fun _ _ _ h => h) (Or.inl ⟨by rfl, ?_⟩) hHeld ?_
            rotate_left
            · intro w' hSw; go_simp; try with_reducible rfl
            try simp only [Act.put, List.setIfInBounds_toArray, List.set_cons_zero, List.set_cons_succ]
            refine wpAnyH_take (i := 16) (v := ?_) (List.getElem?_toArray.trans rfl) (by kernel_rfl) (by kernel_rfl) (by kernel_rfl) (fun _ _ _ h => h) (Or.inl ⟨by rfl, ?_⟩) hHeld ?_
            rotate_left
            · intro w' hSw; have q0 := hSw.cell dc1 (by simp); go_simp; try with_reducible rfl
            try simp only [Act.put, List.setIfInBounds_toArray, List.set_cons_zero, List.set_cons_succ]
            refine wpAnyH_take (i := 17) (v := ?_) (List.getElem?_toArray.trans rfl) (by kernel_rfl) (by kernel_rfl) (by kernel_rfl) (fun _ _ _ h => h) (Or.inl ⟨by rfl, ?_⟩) hHeld ?_
            rotate_left
            · intro w' hSw; go_simp; try with_reducible rfl
            try simp only [Act.put, List.setIfInBounds_toArray, List.set_cons_zero, List.set_cons_succ]
            refine wpAnyH_take (i := 18) (v := ?_) (List.getElem?_toArray.trans rfl) (by kernel_rfl) (by kernel_rfl) (by kernel_rfl) (fun _ _ _ h => h) (Or.inl ⟨by rfl, ?_⟩) hHeld ?_
            rotate_left
            · intro w' hSw; go_simp; try with_reducible rfl
            try simp only [Act.put, List.setIfInBounds_toArray, List.set_cons_zero, List.set_cons_succ]
            refine wpAnyH_take (i := 19) (v := ?_) (List.getElem?_toArray.trans rfl) (by kernel_rfl) (by kernel_rfl) (by kernel_rfl) (fun _ _ _ h => h) (Or.inl ⟨by rfl, ?_⟩) hHeld ?_
            rotate_left
            · intro w' hSw; go_simp; try with_reducible rfl
            try simp only [Act.put, List.setIfInBounds_toArray, List.set_cons_zero, List.set_cons_succ]
            refine wpAnyH_take (i := 20) (v := ?_) (List.getElem?_toArray.trans rfl) (by kernel_rfl) (by kernel_rfl) (by kernel_rfl) (fun _ _ _ h => h) (Or.inl ⟨by rfl, ?_⟩) hHeld ?_
            rotate_left
            · intro w' hSw; go_simp; try with_reducible rfl
            try simp only [Act.put, List.setIfInBounds_toArray, List.set_cons_zero, List.set_cons_succ]
            refine wpAnyH_take (i := 21) (v := ?_) (List.getElem?_toArray.trans rfl) (by kernel_rfl) (by kernel_rfl) (by kernel_rfl) (fun _ _ _ h => h) (Or.inl ⟨by rfl, ?_⟩) hHeld ?_
            rotate_left
            · intro w' hSw; have q0 := hSw.cell dc2 (by simp); go_simp; try with_reducible rfl
            try simp only [Act.put, List.setIfInBounds_toArray, List.set_cons_zero, List.set_cons_succ]
            refine wpAnyH_take (i := 22) (v := ?_) (List.getElem?_toArray.trans rfl) (by kernel_rfl) (by kernel_rfl) (by kernel_rfl) (fun _ _ _ h => h) (Or.inl ⟨by rfl, ?_⟩) hHeld ?_
            rotate_left
            · intro w' hSw; go_simp; try with_reducible rfl
            try simp only [Act.put, List.setIfInBounds_toArray, List.set_cons_zero, List.set_cons_succ]
            refine wpAnyH_take (i := 23) (v := ?_) (List.getElem?_toArray.trans rfl) (by kernel_rfl) (by kernel_rfl) (by kernel_rfl) (fun _ _ _ h => h) (Or.inl ⟨by rfl, ?_⟩) hHeld ?_
            rotate_left
            · intro w' hSw; go_simp; try with_reducible rfl
            try simp only [Act.put, List.setIfInBounds_toArray, List.set_cons_zero, List.set_cons_succ]
            refine wpAnyH_take (i := 24) (v := ?_) (List.getElem?_toArray.trans rfl) (by kernel_rfl) (by kernel_rfl) (by kernel_rfl) (fun _ _ _ h => h) (Or.inl ⟨by rfl, ?_⟩) hHeld ?_
            rotate_left
            · intro w' hSw; go_simp; try with_reducible rfl
            try simp only [Act.put, List.setIfInBounds_toArray, List.set_cons_zero, List.set_cons_succ]
            refine wpAnyH_take (i := 25) (v := ?_) (List.getElem?_toArray.trans rfl) (by kernel_rfl) (by kernel_rfl) (by kernel_rfl) (fun _ _ _ h => h) (Or.inl ⟨by rfl, ?_⟩) hHeld ?_
            rotate_left
            · intro w' hSw; go_simp; try with_reducible rfl
            try simp only [Act.put, List.setIfInBounds_toArray, List.set_cons_zero, List.set_cons_succ]
            refine wpAnyH_take (i := 26) (v := ?_) (List.getElem?_toArray.trans rfl) (by kernel_rfl) (by kernel_rfl) (by kernel_rfl) (fun _ _ _ h => h) (Or.inl ⟨by rfl, ?_⟩) hHeld ?_
            rotate_left
            · intro w' hSw; have q0 := hSw.cell dd0 (by simp); go_simp; try with_reducible rfl
            try simp only [Act.put, List.setIfInBounds_toArray, List.set_cons_zero, List.set_cons_succ]
            refine wpAnyH_take (i := 27) (v := ?_) (List.getElem?_toArray.trans rfl) (by kernel_rfl) (by kernel_rfl) (by kernel_rfl) (fun _ _ _ h => h) (Or.inl ⟨by rfl, ?_⟩) hHeld ?_
            rotate_left
            · intro w' hSw; go_simp; try with_reducible rfl
            try simp only [Act.put, List.setIfInBounds_toArray, List.set_cons_zero, List.set_cons_succ]
            refine wpAnyH_take (i := 28) (v := ?_) (List.getElem?_toArray.trans rfl) (by kernel_rfl) (by kernel_rfl) (by kernel_rfl) (fun _ _ _ h => h) (Or.inl ⟨by rfl, ?_⟩) hHeld ?_
            rotate_left
            · intro w' hSw; go_simp; try with_reducible rfl
            try simp only [Act.put, List.setIfInBounds_toArray, List.set_cons_zero, List.set_cons_succ]
            refine wpAnyH_take (i := 29) (v := ?_) (List.getElem?_toArray.trans rfl) (by kernel_rfl) (by kernel_rfl) (by kernel_rfl) (fun _ _ _ h => h) (Or.inl ⟨by rfl, ?_⟩) hHeld ?_
            rotate_left
            · intro w' hSw; go_simp; try with_reducible rfl
            try simp only [Act.put, List.setIfInBounds_toArray, List.set_cons_zero, List.set_cons_succ]
            refine wpAnyH_take (i := 30) (v := ?_) (List.getElem?_toArray.trans rfl) (by kernel_rfl) (by kernel_rfl) (by kernel_rfl) (fun _ _ _ h => h) (Or.inl ⟨by rfl, ?_⟩) hHeld ?_
            rotate_left
            · intro w' hSw; go_simp; try with_reducible rfl
            try simp only [Act.put, List.setIfInBounds_toArray, List.set_cons_zero, List.set_cons_succ]
            refine wpAnyH_take (i := 31) (v := ?_) (List.getElem?_toArray.trans rfl) (by kernel_rfl) (by kernel_rfl) (by kernel_rfl) (fun _ _ _ h => h) (Or.inl ⟨by rfl, ?_⟩) hHeld ?_
            rotate_left
            · intro w' hSw; go_simp; try with_reducible rfl
            try simp only [Act.put, List.setIfInBounds_toArray, List.set_cons_zero, List.set_cons_succ]
            refine wpAnyH_take (i := 32) (v := ?_) (List.getElem?_toArray.trans rfl) (by kernel_rfl) (by kernel_rfl) (by kernel_rfl) (fun _ _ _ h => h) (Or.inl ⟨by rfl, ?_⟩) hHeld ?_
            rotate_left
            · intro w' hSw; have q0 := hSw.cell dd1 (by simp); go_simp; try with_reducible rfl
            try simp only [Act.put, List.setIfInBounds_toArray, List.set_cons_zero, List.set_cons_succ]
            refine wpAnyH_take (i := 33) (v := ?_) (List.getElem?_toArray.trans rfl) (by kernel_rfl) (by kernel_rfl) (by kernel_rfl) (fun _ _ _ h => h) (Or.inl ⟨by rfl, ?_⟩) hHeld ?_
            rotate_left
            · intro w' hSw; go_simp; try with_reducible rfl
            try simp only [Act.put, List.setIfInBounds_toArray, List.set_cons_zero, List.set_cons_succ]
            refine wpAnyH_take (i := 34) (v := ?_) (List.getElem?_toArray.trans rfl) (by kernel_rfl) (by kernel_rfl) (by kernel_rfl) (fun _ _ _ h => h) (Or.inl ⟨by rfl, ?_⟩) hHeld ?_
            rotate_left
            · intro w' hSw; go_simp; try with_reducible rfl
            try simp only [Act.put, List.setIfInBounds_toArray, List.set_cons_zero, List.set_cons_succ]
            refine wpAnyH_take (i := 35) (v := ?_) (List.getElem?_toArray.trans rfl) (by kernel_rfl) (by kernel_rfl) (by kernel_rfl) (fun _ _ _ h => h) (Or.inl ⟨by rfl, ?_⟩) hHeld ?_
            rotate_left
            · intro w' hSw; go_simp; try with_reducible rfl
            try simp only [Act.put, List.setIfInBounds_toArray, List.set_cons_zero, List.set_cons_succ]
            refine wpAnyH_take (i := 36) (v := ?_) (List.getElem?_toArray.trans rfl) (by kernel_rfl) (by kernel_rfl) (by kernel_rfl) (fun _ _ _ h => h) (Or.inl ⟨by rfl, ?_⟩) hHeld ?_
            rotate_left
            · intro w' hSw; go_simp; try with_reducible rfl
            try simp only [Act.put, List.setIfInBounds_toArray, List.set_cons_zero, List.set_cons_succ]
            refine wpAnyH_take (i := 37) (v := ?_) (List.getElem?_toArray.trans rfl) (by kernel_rfl) (by kernel_rfl) (by kernel_rfl) (fun _ _ _ h => h) (Or.inl ⟨by rfl, ?_⟩) hHeld ?_
            rotate_left
            · intro w' hSw; have q0 := hSw.cell dg0 (by simp); go_simp; try with_reducible rfl
            try simp only [Act.put, List.setIfInBounds_toArray, List.set_cons_zero, List.set_cons_succ]
            refine wpAnyH_take (i := 38) (v := ?_) (List.getElem?_toArray.trans rfl) (by kernel_rfl) (by kernel_rfl) (by kernel_rfl) (fun _ _ _ h => h) (Or.inl ⟨by rfl, ?_⟩) hHeld ?_
            rotate_left
            · intro w' hSw; go_simp; try with_reducible rfl
            try simp only [Act.put, List.setIfInBounds_toArray, List.set_cons_zero, List.set_cons_succ]
            refine wpAnyH_take (i := 39) (v := ?_) (List.getElem?_toArray.trans rfl) (by kernel_rfl) (by kernel_rfl) (by kernel_rfl) (fun _ _ _ h => h) (Or.inl ⟨by rfl, ?_⟩) hHeld ?_
            rotate_left
            · intro w' hSw; go_simp; try with_reducible rfl
            try simp only [Act.put, List.setIfInBounds_toArray, List.set_cons_zero, List.set_cons_succ]
            refine wpAnyH_take (i := 40) (v := ?_) (List.getElem?_toArray.trans rfl) (by kernel_rfl) (by kernel_rfl) (by kernel_rfl) (fun _ _ _ h => h) (Or.inl ⟨by rfl, ?_⟩) hHeld ?_
            rotate_left
            · intro w' hSw; go_simp; try with_reducible rfl
            try simp only [Act.put, List.setIfInBounds_toArray, List.set_cons_zero, List.set_cons_succ]
            refine wpAnyH_take (i := 41) (v := ?_) (List.getElem?_toArray.trans rfl) (by kernel_rfl) (by kernel_rfl) (by kernel_rfl) (fun _ _ _ h => h) (Or.inl ⟨by rfl, ?_⟩) hHeld ?_
            rotate_left
            · intro w' hSw; go_simp; try with_reducible rfl
            try simp only [Act.put, List.setIfInBounds_toArray, List.set_cons_zero, List.set_cons_succ]
            refine wpAnyH_take (i := 42) (v := ?_) (List.getElem?_toArray.trans rfl) (by kernel_rfl) (by kernel_rfl) (by kernel_rfl) (fun _ _ _ h => h) (Or.inl ⟨by rfl, ?_⟩) hHeld ?_
            rotate_left
            · intro w' hSw; go_simp; try with_reducible rfl
            try simp only [Act.put, List.setIfInBounds_toArray, List.set_cons_zero, List.set_cons_succ]
            refine wpAnyH_take (i := 43) (v := ?_) (List.getElem?_toArray.trans rfl) (by kernel_rfl) (by kernel_rfl) (by kernel_rfl) (fun _ _ _ h => h) (Or.inl ⟨by rfl, ?_⟩) hHeld ?_
            rotate_left
            · intro w' hSw; have q0 := hSw.cell dh1 (by simp); go_simp; try with_reducible rfl
            try simp only [Act.put, List.setIfInBounds_toArray, List.set_cons_zero, List.set_cons_succ]
            refine wpAnyH_take (i := 44) (v := ?_) (List.getElem?_toArray.trans rfl) (by kernel_rfl) (by kernel_rfl) (by kernel_rfl) (fun _ _ _ h => h) (Or.inl ⟨by rfl, ?_⟩) hHeld ?_
            rotate_left
            · intro w' hSw; go_simp; try with_reducible rfl
            try simp only [Act.put, List.setIfInBounds_toArray, List.set_cons_zero, List.set_cons_succ]
            refine wpAnyH_take (i := 45) (v := ?_) (List.getElem?_toArray.trans rfl) (by kernel_rfl) (by kernel_rfl) (by kernel_rfl) (fun _ _ _ h => h) (Or.inl ⟨by rfl, ?_⟩) hHeld ?_
            rotate_left
            · intro w' hSw; go_simp; try with_reducible rfl
            try simp only [Act.put, List.setIfInBounds_toArray, List.set_cons_zero, List.set_cons_succ]
            refine wpAnyH_take (i := 46) (v := ?_) (List.getElem?_toArray.trans rfl) (by kernel_rfl) (by kernel_rfl) (by kernel_rfl) (fun _ _ _ h => h) (Or.inl ⟨by rfl, ?_⟩) hHeld ?_
            rotate_left
            · intro w' hSw; go_simp; try with_reducible rfl
            try simp only [Act.put, List.setIfInBounds_toArray, List.set_cons_zero, List.set_cons_succ]
            refine wpAnyH_take (i := 47) (v := ?_) (List.getElem?_toArray.trans rfl) (by kernel_rfl) (by kernel_rfl) (by kernel_rfl) (fun _ _ _ h => h) (Or.inl ⟨by rfl, ?_⟩) hHeld ?_
            rotate_left
            · intro w' hSw; go_simp; try with_reducible rfl
            try simp only [Act.put, List.setIfInBounds_toArray, List.set_cons_zero, List.set_cons_succ]
            refine wpAnyH_take (i := 48) (v := ?_) (List.getElem?_toArray.trans rfl) (by kernel_rfl) (by kernel_rfl) (by kernel_rfl) (fun _ _ _ h => h) (Or.inl ⟨by rfl, ?_⟩) hHeld ?_
            rotate_left
            · intro w' hSw; go_simp; try with_reducible rfl
            try simp only [Act.put, List.setIfInBounds_toArray, List.set_cons_zero, List.set_cons_succ]
            refine wpAnyH_take (i := 49) (v := ?_) (List.getElem?_toArray.trans rfl) (by kernel_rfl) (by kernel_rfl) (by kernel_rfl) (fun _ _ _ h => h) (Or.inl ⟨by rfl, ?_⟩) hHeld ?_
            rotate_left
            · intro w' hSw; go_simp; try with_reducible rfl
            try simp only [Act.put, List.setIfInBounds_toArray, List.set_cons_zero, List.set_cons_succ]
            refine wpAnyH_take (i := 50) (v := ?_) (List.getElem?_toArray.trans rfl) (by kernel_rfl) (by kernel_rfl) (by kernel_rfl) (fun _ _ _ h => h) (Or.inl ⟨by rfl, ?_⟩) hHeld ?_
            rotate_left
            · intro w' hSw; go_simp; try with_reducible rfl
            try simp only [Act.put, List.setIfInBounds_toArray, List.set_cons_zero, List.set_cons_succ]
            refine wpAnyH_take (i := 51) (v := ?_) (List.getElem?_toArray.trans rfl) (by kernel_rfl) (by kernel_rfl) (by kernel_rfl) (fun _ _ _ h => h) (Or.inl ⟨by rfl, ?_⟩) hHeld ?_
            rotate_left
            · intro w' hSw; go_simp; try with_reducible rfl
            try simp only [Act.put, List.setIfInBounds_toArray, List.set_cons_zero, List.set_cons_succ]
            refine wpAnyH_take (i := 52) (v := ?_) (List.getElem?_toArray.trans rfl) (by kernel_rfl) (by kernel_rfl) (by kernel_rfl) (fun _ _ _ h => h) (Or.inl ⟨by rfl, ?_⟩) hHeld ?_
            rotate_left
            · intro w' hSw; go_simp; try with_reducible rfl
            try simp only [Act.put, List.setIfInBounds_toArray, List.set_cons_zero, List.set_cons_succ]
            refine wpAnyH_take (i := 53) (v := ?_) (List.getElem?_toArray.trans rfl) (by kernel_rfl) (by kernel_rfl) (by kernel_rfl) (fun _ _ _ h => h) (Or.inl ⟨by rfl, ?_⟩) hHeld ?_
            rotate_left
            · intro w' hSw; go_simp; try with_reducible rfl
            try simp only [Act.put, List.setIfInBounds_toArray, List.set_cons_zero, List.set_cons_succ]
            refine wpAnyH_take (i := 54) (v := ?_) (List.getElem?_toArray.trans rfl) (by kernel_rfl) (by kernel_rfl) (by kernel_rfl) (fun _ _ _ h => h) (Or.inl ⟨by rfl, ?_⟩) hHeld ?_
            rotate_left
            · intro w' hSw; have q0 := hSw.cell dl (by simp); go_simp; try with_reducible rfl
            try simp only [Act.put, List.setIfInBounds_toArray, List.set_cons_zero, List.set_cons_succ]
            refine wpAnyH_ready (rs := [55]) (by kernel_rfl) (by simp) ?_
            refine AllReadyH.cons (List.getElem?_toArray.trans rfl) (fun K hK => ?_) AllReadyH.nil
            go_simp
            go_at_call 10
            (with_reducible refine (sec_k 120 120 S1 _ rfl HS.out.1).mono ?_)
            rintro e x18 ⟨rfl, gN⟩
            refine hK.out _ _ (gb_trans hHeld gN) (fun hHeld => ?_)
            clear hK K
            try simp only [Act.put, List.setIfInBounds_toArray, List.set_cons_zero, List.set_cons_succ]
            refine wpAnyH_take (i := 56) (v := ?_) (List.getElem?_toArray.trans rfl) (by kernel_rfl) (by kernel_rfl) (by kernel_rfl) (fun _ _ _ h => h) (Or.inl ⟨by rfl, ?_⟩) hHeld ?_
            rotate_left
            · intro w' hSw; go_simp; try with_reducible rfl
            try simp only [Act.put, List.setIfInBounds_toArray, List.set_cons_zero, List.set_cons_succ]
            refine wpAnyH_take (i := 57) (v := ?_) (List.getElem?_toArray.trans rfl) (by kernel_rfl) (by kernel_rfl) (by kernel_rfl) (fun _ _ _ h => h) (Or.inl ⟨by rfl, ?_⟩) hHeld ?_
            rotate_left
            · intro w' hSw; go_simp; try with_reducible rfl
            try simp only [Act.put, List.setIfInBounds_toArray, List.set_cons_zero, List.set_cons_succ]
            refine wpAnyH_take (i := 58) (v := ?_) (List.getElem?_toArray.trans rfl) (by kernel_rfl) (by kernel_rfl) (by kernel_rfl) (fun _ _ _ h => h) (Or.inl ⟨by rfl, ?_⟩) hHeld ?_
            rotate_left
            · intro w' hSw; go_simp; try with_reducible rfl
            try simp only [Act.put, List.setIfInBounds_toArray, List.set_cons_zero, List.set_cons_succ]
            refine wpAnyH_take (i := 59) (v := ?_) (List.getElem?_toArray.trans rfl) (by kernel_rfl) (by kernel_rfl) (by kernel_rfl) (fun _ _ _ h => h) (Or.inl ⟨by rfl, ?_⟩) hHeld ?_
            rotate_left
            · intro w' hSw; go_simp; try with_reducible rfl
            try simp only [Act.put, List.setIfInBounds_toArray, List.set_cons_zero, List.set_cons_succ]
            refine wpAnyH_take (i := 60) (v := ?_) (List.getElem?_toArray.trans rfl) (by kernel_rfl) (by kernel_rfl) (by kernel_rfl) (fun _ _ _ h => h) (Or.inl ⟨by rfl, ?_⟩) hHeld ?_
            rotate_left
            · intro w' hSw; go_simp; try with_reducible rfl
            try simp only [Act.put, List.setIfInBounds_toArray, List.set_cons_zero, List.set_cons_succ]
            refine wpAnyH_take (i := 61) (v := ?_) (List.getElem?_toArray.trans rfl) (by kernel_rfl) (by kernel_rfl) (by kernel_rfl) (fun _ _ _ h => h) (Or.inl ⟨by rfl, ?_⟩) hHeld ?_
            rotate_left
            · intro w' hSw; go_simp; try with_reducible rfl
            try simp only [Act.put, List.setIfInBounds_toArray, List.set_cons_zero, List.set_cons_succ]
            refine wpAnyH_take (i := 62) (v := ?_) (List.getElem?_toArray.trans rfl) (by kernel_rfl) (by kernel_rfl) (by kernel_rfl) (fun _ _ _ h => h) (Or.inl ⟨by rfl, ?_⟩) hHeld ?_
            rotate_left
            · intro w' hSw; go_simp; try with_reducible rfl
            try simp only [Act.put, List.setIfInBounds_toArray, List.set_cons_zero, List.set_cons_succ]
            refine wpAnyH_take (i := 63) (v := ?_) (List.getElem?_toArray.trans rfl) (by kernel_rfl) (by kernel_rfl) (by kernel_rfl) (fun _ _ _ h => h) (Or.inl ⟨by rfl, ?_⟩) hHeld ?_
            rotate_left
            · intro w' hSw; go_simp; try with_reducible rfl
            try simp only [Act.put, List.setIfInBounds_toArray, List.set_cons_zero, List.set_cons_succ]
            refine wpAnyH_take (i := 64) (v := ?_) (List.getElem?_toArray.trans rfl) (by kernel_rfl) (by kernel_rfl) (by kernel_rfl) (fun _ _ _ h => h) (Or.inl ⟨by rfl, ?_⟩) hHeld ?_
            rotate_left
            · intro w' hSw; go_simp; try with_reducible rfl
            try simp only [Act.put, List.setIfInBounds_toArray, List.set_cons_zero, List.set_cons_succ]
            refine wpAnyH_take (i := 65) (v := ?_) (List.getElem?_toArray.trans rfl) (by kernel_rfl) (by kernel_rfl) (by kernel_rfl) (fun _ _ _ h => h) (Or.inl ⟨by rfl, ?_⟩) hHeld ?_
            rotate_left
            · intro w' hSw; go_simp; try with_reducible rfl
            try simp only [Act.put, List.setIfInBounds_toArray, List.set_cons_zero, List.set_cons_succ]
            refine wpAnyH_take (i := 66) (v := ?_) (List.getElem?_toArray.trans rfl) (by kernel_rfl) (by kernel_rfl) (by kernel_rfl) (fun _ _ _ h => h) (Or.inl ⟨by rfl, ?_⟩) hHeld ?_
            rotate_left
            · intro w' hSw; have q0 := hSw.cell dk (by simp); go_simp; try with_reducible rfl
            try simp only [Act.put, List.setIfInBounds_toArray, List.set_cons_zero, List.set_cons_succ]
            refine wpAnyH_ready (rs := [67]) (by kernel_rfl) (by simp) ?_
            refine AllReadyH.cons (List.getElem?_toArray.trans rfl) (fun K hK => ?_) AllReadyH.nil
            go_simp
            go_at_call 10
            (with_reducible refine (sec_k 97 97 S0 _ rfl HS.out.2.2.2).mono ?_)
            rintro e x19 ⟨rfl, gN⟩
            refine hK.out _ _ (gb_trans hHeld gN) (fun hHeld => ?_)
            clear hK K
            try simp only [Act.put, List.setIfInBounds_toArray, List.set_cons_zero, List.set_cons_succ]
            refine wpAnyH_take (i := 68) (v := ?_) (List.getElem?_toArray.trans rfl) (by kernel_rfl) (by kernel_rfl) (by kernel_rfl) (fun _ _ _ h => h) (Or.inl ⟨by rfl, ?_⟩) hHeld ?_
            rotate_left
            · intro w' hSw; go_simp; try with_reducible rfl
            try simp only [Act.put, List.setIfInBounds_toArray, List.set_cons_zero, List.set_cons_succ]
            refine wpAnyH_take (i := 69) (v := ?_) (List.getElem?_toArray.trans rfl) (by kernel_rfl) (by kernel_rfl) (by kernel_rfl) (fun _ _ _ h => h) (Or.inl ⟨by rfl, ?_⟩) hHeld ?_
            rotate_left
            · intro w' hSw; go_simp; try with_reducible rfl
            try simp only [Act.put, List.setIfInBounds_toArray, List.set_cons_zero, List.set_cons_succ]
            refine wpAnyH_take (i := 70) (v := ?_) (List.getElem?_toArray.trans rfl) (by kernel_rfl) (by kernel_rfl) (by kernel_rfl) (fun _ _ _ h => h) (Or.inl ⟨by rfl, ?_⟩) hHeld ?_
            rotate_left
            · intro w' hSw; go_simp; try with_reducible rfl
            try simp only [Act.put, List.setIfInBounds_toArray, List.set_cons_zero, List.set_cons_succ]
            refine wpAnyH_ready (rs := [71]) (by kernel_rfl) (by simp) ?_
            refine AllReadyH.cons (List.getElem?_toArray.trans rfl) (fun K hK => ?_) AllReadyH.nil
            go_simp
            go_at_call 12
            (with_reducible refine (whole_k 9000 4096 _ (by decide) (by decide) k_g.2.1).mono ?_)
            rintro e x20 ⟨aoz, capz, rfl, _, gN⟩
            refine hK.out _ _ (gb_trans hHeld gN) (fun hHeld => ?_)
            clear hK K
            try simp only [Act.put, List.setIfInBounds_toArray, List.set_cons_zero, List.set_cons_succ]
            refine wpAnyH_take (i := 72) (v := ?_) (List.getElem?_toArray.trans rfl) (by kernel_rfl) (by kernel_rfl) (by kernel_rfl) (fun _ _ _ h => h) (Or.inl ⟨by rfl, ?_⟩) hHeld ?_
            rotate_left
            · intro w' hSw; have q0 := field_k aoz 4096 capz (-1) 0 w'; go_simp; try with_reducible rfl
            try simp only [Act.put, List.setIfInBounds_toArray, List.set_cons_zero, List.set_cons_succ]
            refine wpAnyH_take (i := 73) (v := ?_) (List.getElem?_toArray.trans rfl) (by kernel_rfl) (by kernel_rfl) (by kernel_rfl) (fun _ _ _ h => h) (Or.inl ⟨by rfl, ?_⟩) hHeld ?_
            rotate_left
            · intro w' hSw; go_simp; try with_reducible rfl
            try simp only [Act.put, List.setIfInBounds_toArray, List.set_cons_zero, List.set_cons_succ]
            refine wpAnyH_take (i := 74) (v := ?_) (List.getElem?_toArray.trans rfl) (by kernel_rfl) (by kernel_rfl) (by kernel_rfl) (fun _ _ _ h => h) (Or.inl ⟨by rfl, ?_⟩) hHeld ?_
            rotate_left
            · intro w' hSw; go_simp; try with_reducible rfl
            try simp only [Act.put, List.setIfInBounds_toArray, List.set_cons_zero, List.set_cons_succ]
            refine wpAnyH_take (i := 75) (v := ?_) (List.getElem?_toArray.trans rfl) (by kernel_rfl) (by kernel_rfl) (by kernel_rfl) (fun _ _ _ h => h) (Or.inl ⟨by rfl, ?_⟩) hHeld ?_
            rotate_left
            · intro w' hSw; go_simp; try with_reducible rfl
            try simp only [Act.put, List.setIfInBounds_toArray, List.set_cons_zero, List.set_cons_succ]
            refine wpAnyH_take (i := 76) (v := ?_) (List.getElem?_toArray.trans rfl) (by kernel_rfl) (by kernel_rfl) (by kernel_rfl) (fun _ _ _ h => h) (Or.inl ⟨by rfl, ?_⟩) hHeld ?_
            rotate_left
            · intro w' hSw; go_simp; try with_reducible rfl
            try simp only [Act.put, List.setIfInBounds_toArray, List.set_cons_zero, List.set_cons_succ]
            refine wpAnyH_done (by kernel_rfl) ?_ _
            refine NoPanic.normal ?_
            have GF := gb_trans GR4 (gb_trans HD17.out hHeld)
            go_wp2_with fail
            go_ret
            exact ⟨rfl, GF⟩
end Go.Proofs.YtcoegaipojnndaaDoor

