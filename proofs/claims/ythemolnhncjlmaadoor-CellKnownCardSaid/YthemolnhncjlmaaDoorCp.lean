/-
  What Open answers of any text, over this seat's translation; no conditions beside the model's own.
-/
import Derived.Test.YthemolnhncjlmaaDoorCo
namespace Go.Proofs.YthemolnhncjlmaaDoor
open Go.RowKit

/-- A question, new: what it looks at stands in a box of its own. -/
def Quest (w : World) (f : Nat) (v : Value) (e : Ending) (w' : World) : Prop :=
  ∃ x : Nat, e = .returned (.func (.func f) #[] #[.pointer (some ⟨x, 0, none⟩)]) ∧ w.heap.size ≤ x ∧ w'.cell? ⟨x, 0, none⟩ = some v ∧ w.grownBy w' none
theorem mk_whole (s : ByteArray) (w : World) : Calls Tryd.prog 22 #[.string s] w (Quest w 34 (.string s)) := by
  go_enter Tryd.func22, Tryd.ntmps22
  go_wp2
  go_ret
  exact ⟨_, rfl, Nat.le_refl _, Blk.cell (Blk.mk _ _ _) 0 rfl, gb_alloc _ _ _⟩
theorem mk_summed (b : Nat) (w : World) : Calls Tryd.prog 23 #[.pointer (some ⟨b, 0, none⟩)] w (Quest w 35 (.pointer (some ⟨b, 0, none⟩))) := by
  go_enter Tryd.func23, Tryd.ntmps23
  go_wp2
  go_ret
  exact ⟨_, rfl, Nat.le_refl _, Blk.cell (Blk.mk _ _ _) 0 rfl, gb_alloc _ _ _⟩
theorem mk_kind (b : Nat) (w : World) : Calls Tryd.prog 24 #[.pointer (some ⟨b, 0, none⟩)] w (Quest w 37 (.pointer (some ⟨b, 0, none⟩))) := by
  go_enter Tryd.func24, Tryd.ntmps24
  go_wp2
  go_ret
  exact ⟨_, rfl, Nat.le_refl _, Blk.cell (Blk.mk _ _ _) 0 rfl, gb_alloc _ _ _⟩
theorem mk_room (b : Nat) (w : World) : Calls Tryd.prog 25 #[.pointer (some ⟨b, 0, none⟩)] w (Quest w 38 (.pointer (some ⟨b, 0, none⟩))) := by
  go_enter Tryd.func25, Tryd.ntmps25
  go_wp2
  go_ret
  exact ⟨_, rfl, Nat.le_refl _, Blk.cell (Blk.mk _ _ _) 0 rfl, gb_alloc _ _ _⟩
theorem mk_blank (b : Nat) (w : World) : Calls Tryd.prog 26 #[.pointer (some ⟨b, 0, none⟩)] w (Quest w 39 (.pointer (some ⟨b, 0, none⟩))) := by
  go_enter Tryd.func26, Tryd.ntmps26
  go_wp2
  go_ret
  exact ⟨_, rfl, Nat.le_refl _, Blk.cell (Blk.mk _ _ _) 0 rfl, gb_alloc _ _ _⟩
theorem first_open (s : ByteArray) : firstQ [q0 s.size, q1 (secF s.data.toList), q2 (secF s.data.toList), q3 (secF s.data.toList), q4 (secF s.data.toList)] = openF s.data.toList := by
  by_cases h : s.size = 256
  · rw [secF_whole _ h, h, openF_q _ h]
  · rw [openF_short _ h]
    unfold q0
    rw [if_neg h]
    exact firstQ_hit _ _ _ (by decide)
theorem openF_long (l : List UInt8) (h : (openF l).1 = 0) : longF l ≤ 240 := by
  have h := openF_zero l h
  unfold openF at h
  split at h
  · cases h
  split at h
  · cases h
  split at h
  · cases h
  split at h
  · cases h
  rename_i h3
  omega
theorem slice_body (b n : Nat) (hn : n ≤ 240) (W : World) : (Instr.sliceAt 47 (.pointer (some ⟨b, 0, none⟩)) (some (.int .i64 2)) (some (.int .i64 (2 + (n : Int)))) none).run Tryd.prog W = .ok (.slice (some ⟨b, 2, none⟩) n 254) W := by
  have h1 : (2 : Int) ≤ 2 + (n : Int) := by omega
  have h2 : (2 : Int) + (n : Int) ≤ 256 := by omega
  have h3 : ((2 : Int) + (n : Int)).toNat = 2 + n := by omega
  have h4 : (0 : Int) ≤ 2 + (n : Int) := by omega
  simp [Instr.sliceAt, run_underlying Tryd.underlying47, Sem.run_bind, Tryd.sizeOf5]
  go_simp
/-- What is opened. -/
def Opened (w : World) (l : List UInt8) (e : Ending) (w' : World) : Prop :=
  ((openF l).1 = 0 → e = .returned (.tuple #[.int .i64 (kindF l : Nat), .string ⟨(bodyF l).toArray⟩, .nilIface]) ∧ w.grownBy w' none) ∧
  ((openF l).1 ≠ 0 → ∃ a : Nat, e = .returned (.tuple #[.int .i64 0, .string ⟨#[]⟩, .iface 66 (.pointer (some ⟨a, 0, none⟩))]) ∧ w.heap.size ≤ a ∧ Ft w' a ((openF l).1 : Nat) ((openF l).2 : Nat) ∧ w.grownBy w' none)
theorem asks_new (w : World) (x0 x1 x2 x3 x4 : Nat) : Asks (w.alloc (.cells #[.func (.func 34) #[] #[.pointer (some ⟨x0, 0, none⟩)], .func (.func 35) #[] #[.pointer (some ⟨x1, 0, none⟩)], .func (.func 37) #[] #[.pointer (some ⟨x2, 0, none⟩)], .func (.func 38) #[] #[.pointer (some ⟨x3, 0, none⟩)], .func (.func 39) #[] #[.pointer (some ⟨x4, 0, none⟩)]] 58)) w.heap.size [x0, x1, x2, x3, x4] :=
  ⟨Blk.cell (Blk.mk _ _ _) 0 rfl, Blk.cell (Blk.mk _ _ _) 1 rfl, Blk.cell (Blk.mk _ _ _) 2 rfl, Blk.cell (Blk.mk _ _ _) 3 rfl, Blk.cell (Blk.mk _ _ _) 4 rfl⟩
theorem asks_grown (w : World) (x0 x1 x2 x3 x4 : Nat) : w.grownBy (w.alloc (.cells #[.func (.func 34) #[] #[.pointer (some ⟨x0, 0, none⟩)], .func (.func 35) #[] #[.pointer (some ⟨x1, 0, none⟩)], .func (.func 37) #[] #[.pointer (some ⟨x2, 0, none⟩)], .func (.func 38) #[] #[.pointer (some ⟨x3, 0, none⟩)], .func (.func 39) #[] #[.pointer (some ⟨x4, 0, none⟩)]] 58)) none := gb_alloc _ _ _
set_option maxRecDepth 100000 in
set_option maxHeartbeats 2000000 in
theorem open_bad (s : ByteArray) (w : World) (hz : (openF s.data.toList).1 ≠ 0) :
    Calls Tryd.prog 13 #[.string s] w (Opened w s.data.toList) := by
  have hcp := fun ty => copy_text (Sec.mk w) s ty
  have hsec : Sec ((w.alloc (.cells Tryd.zeroCells47 47)).setRow w.heap.size (bcells (secF s.data.toList)).toArray) w.heap.size (secF s.data.toList) := ⟨setRow_heap _ _ _ _ _ _ (Sec.mk w).1, secF_length _⟩
  have hg1 : w.grownBy ((w.alloc (.cells Tryd.zeroCells47 47)).setRow w.heap.size (bcells (secF s.data.toList)).toArray) none := gb_step (gb_alloc _ _ _) (gb_setRow _ _ _) (Nat.le_refl _)
  have HF := Lib.hid (first_open s)
  have hsw : s.size = 256 → secF s.data.toList = s.data.toList := fun h => secF_whole _ h
  have HW := Lib.hid hsw
  clear hsw
  generalize (w.alloc (.cells Tryd.zeroCells47 47)).setRow w.heap.size (bcells (secF s.data.toList)).toArray = W0 at hcp hsec hg1
  generalize secF s.data.toList = l at HF hsec HW
  have HS := Lib.hid hsec
  have HG := Lib.hid hg1
  have HZ := Lib.hid hz
  clear hsec hg1 hz
  go_enter Tryd.func13, Tryd.ntmps13
  go_wp2_with (first
    | (go_at_call 22; (with_reducible refine (mk_whole s _).mono ?_); rintro e w1 ⟨x0, rfl, hx0, c0, g1⟩)
    | (go_at_call 23; (with_reducible refine (mk_summed _ _).mono ?_); rintro e w2 ⟨x1, rfl, hx1, c1, g2⟩)
    | (go_at_call 24; (with_reducible refine (mk_kind _ _).mono ?_); rintro e w3 ⟨x2, rfl, hx2, c2, g3⟩)
    | (go_at_call 25; (with_reducible refine (mk_room _ _).mono ?_); rintro e w4 ⟨x3, rfl, hx3, c3, g4⟩)
    | (go_at_call 26; (with_reducible refine (mk_blank _ _).mono ?_); rintro e w5 ⟨x4, rfl, hx4, c4, g5⟩)
    | (go_at_call 21
       have hA := asks_new w5 x0 x1 x2 x3 x4
       have gA := asks_grown w5 x0 x1 x2 x3 x4
       (with_reducible refine (ask_any _ x0 x1 x2 x3 x4 (q0 s.size) (q1 l) (q2 l) (q3 l) (q4 l) _ hA
         (fun W g => whole_any x0 s W ((gb_trans g2 (gb_trans g3 (gb_trans g4 (gb_trans g5 (gb_trans gA g))))).cell c0 (by simp)))
         (fun W g => summed_any x1 _ l W ((gb_trans g3 (gb_trans g4 (gb_trans g5 (gb_trans gA g)))).cell c1 (by simp)) (HS.out.keep0 (gb_trans g1 (gb_trans g2 (gb_trans g3 (gb_trans g4 (gb_trans g5 (gb_trans gA g))))))))
         (fun W g => kind_any x2 _ l W ((gb_trans g4 (gb_trans g5 (gb_trans gA g))).cell c2 (by simp)) (HS.out.keep0 (gb_trans g1 (gb_trans g2 (gb_trans g3 (gb_trans g4 (gb_trans g5 (gb_trans gA g))))))))
         (fun W g => room_any x3 _ l W ((gb_trans g5 (gb_trans gA g)).cell c3 (by simp)) (HS.out.keep0 (gb_trans g1 (gb_trans g2 (gb_trans g3 (gb_trans g4 (gb_trans g5 (gb_trans gA g))))))))
         (fun W g => blank_any x4 _ l W ((gb_trans gA g).cell c4 (by simp)) (HS.out.keep0 (gb_trans g1 (gb_trans g2 (gb_trans g3 (gb_trans g4 (gb_trans g5 (gb_trans gA g)))))))) ).mono ?_)
       rintro e w6 hQ
       rw [HF.out] at hQ
       have gp := gb_trans HG.out (gb_trans g1 (gb_trans g2 (gb_trans g3 (gb_trans g4 (gb_trans g5 gA)))))
       obtain ⟨a, rfl, ha, f6, g6⟩ := hQ.2 HZ.out)
    | fail)
  go_ret3
  exact ⟨fun h => absurd h HZ.out, fun _ => ⟨a, rfl, Nat.le_trans gp.size ha, f6, gb_trans gp g6⟩⟩
set_option maxRecDepth 100000 in
set_option maxHeartbeats 2000000 in
theorem open_good (s : ByteArray) (w : World) (hz : (openF s.data.toList).1 = 0) :
    Calls Tryd.prog 13 #[.string s] w (Opened w s.data.toList) := by
  have hcp := fun ty => copy_text (Sec.mk w) s ty
  have hsec : Sec ((w.alloc (.cells Tryd.zeroCells47 47)).setRow w.heap.size (bcells (secF s.data.toList)).toArray) w.heap.size (secF s.data.toList) := ⟨setRow_heap _ _ _ _ _ _ (Sec.mk w).1, secF_length _⟩
  have hg1 : w.grownBy ((w.alloc (.cells Tryd.zeroCells47 47)).setRow w.heap.size (bcells (secF s.data.toList)).toArray) none := gb_step (gb_alloc _ _ _) (gb_setRow _ _ _) (Nat.le_refl _)
  have HF := Lib.hid (first_open s)
  have hsw : s.size = 256 → secF s.data.toList = s.data.toList := fun h => secF_whole _ h
  have HW := Lib.hid hsw
  clear hsw
  generalize (w.alloc (.cells Tryd.zeroCells47 47)).setRow w.heap.size (bcells (secF s.data.toList)).toArray = W0 at hcp hsec hg1
  generalize secF s.data.toList = l at HF hsec HW
  have HS := Lib.hid hsec
  have HG := Lib.hid hg1
  have HZ := Lib.hid hz
  clear hsec hg1 hz
  go_enter Tryd.func13, Tryd.ntmps13
  go_wp2_with (first
    | (go_at_call 22; (with_reducible refine (mk_whole s _).mono ?_); rintro e w1 ⟨x0, rfl, hx0, c0, g1⟩)
    | (go_at_call 23; (with_reducible refine (mk_summed _ _).mono ?_); rintro e w2 ⟨x1, rfl, hx1, c1, g2⟩)
    | (go_at_call 24; (with_reducible refine (mk_kind _ _).mono ?_); rintro e w3 ⟨x2, rfl, hx2, c2, g3⟩)
    | (go_at_call 25; (with_reducible refine (mk_room _ _).mono ?_); rintro e w4 ⟨x3, rfl, hx3, c3, g4⟩)
    | (go_at_call 26; (with_reducible refine (mk_blank _ _).mono ?_); rintro e w5 ⟨x4, rfl, hx4, c4, g5⟩)
    | (go_at_call 21
       have hA := asks_new w5 x0 x1 x2 x3 x4
       have gA := asks_grown w5 x0 x1 x2 x3 x4
       (with_reducible refine (ask_any _ x0 x1 x2 x3 x4 (q0 s.size) (q1 l) (q2 l) (q3 l) (q4 l) _ hA
         (fun W g => whole_any x0 s W ((gb_trans g2 (gb_trans g3 (gb_trans g4 (gb_trans g5 (gb_trans gA g))))).cell c0 (by simp)))
         (fun W g => summed_any x1 _ l W ((gb_trans g3 (gb_trans g4 (gb_trans g5 (gb_trans gA g)))).cell c1 (by simp)) (HS.out.keep0 (gb_trans g1 (gb_trans g2 (gb_trans g3 (gb_trans g4 (gb_trans g5 (gb_trans gA g))))))))
         (fun W g => kind_any x2 _ l W ((gb_trans g4 (gb_trans g5 (gb_trans gA g))).cell c2 (by simp)) (HS.out.keep0 (gb_trans g1 (gb_trans g2 (gb_trans g3 (gb_trans g4 (gb_trans g5 (gb_trans gA g))))))))
         (fun W g => room_any x3 _ l W ((gb_trans g5 (gb_trans gA g)).cell c3 (by simp)) (HS.out.keep0 (gb_trans g1 (gb_trans g2 (gb_trans g3 (gb_trans g4 (gb_trans g5 (gb_trans gA g))))))))
         (fun W g => blank_any x4 _ l W ((gb_trans gA g).cell c4 (by simp)) (HS.out.keep0 (gb_trans g1 (gb_trans g2 (gb_trans g3 (gb_trans g4 (gb_trans g5 (gb_trans gA g)))))))) ).mono ?_)
       rintro e w6 hQ
       rw [HF.out] at hQ
       have gp := gb_trans HG.out (gb_trans g1 (gb_trans g2 (gb_trans g3 (gb_trans g4 (gb_trans g5 gA)))))
       obtain ⟨rfl, g6⟩ := hQ.1 HZ.out)
    | fail)
  have hsz : s.size = 256 := by
    rcases Classical.em (s.size = 256) with h | h
    · exact h
    · have := HZ.out; rw [openF_short _ h] at this; cases this
  have hl := HW.out hsz
  have h3 := openF_long _ HZ.out
  rw [← hl] at HZ h3 ⊢
  have S6 := HS.out.keep0 (gb_trans g1 (gb_trans g2 (gb_trans g3 (gb_trans g4 (gb_trans g5 (gb_trans (asks_grown w5 x0 x1 x2 x3 x4) g6))))))
  have b0 := S6.byte 0 (by omega)
  rw [show (l.getD 0 0).toNat = kindF l from rfl] at b0
  have hst := (S6.keep0 (gb_drew _ none)).str 2 (longF l) 254 (by omega) (by omega)
  have HE := Lib.hid (fun W (g : w6.grownBy W none) => end_any w.heap.size l W (S6.keep0 g))
  have HB := Lib.hid (show ((l.drop 2).take (longF l)) = bodyF l by unfold bodyF; rw [List.drop_take, Nat.add_sub_cancel_left])
  have gall := gb_trans gp g6
  clear c0 c1 c2 c3 c4 g1 g2 g3 g4 g5 gA g6 hA hQ gp hx0 hx1 hx2 hx3 hx4 hcp
  rw [HB.out] at hst
  have HO := Lib.hid (show openF l = openF s.data.toList by rw [hl])
  have HK := Lib.hid (show kindF l = kindF s.data.toList ∧ bodyF l = bodyF s.data.toList by rw [hl]; exact ⟨rfl, rfl⟩)
  have hkl := kindF_lt l
  generalize longF l = n at hst h3 HE
  generalize kindF l = k at b0 HK hkl
  generalize bodyF l = r at hst HK
  clear hl S6 HF HW HS hsz
  have hsl := fun W => slice_body w.heap.size n h3 W
  have hkw : IntKind.i64.wrap (k : Int) = (k : Int) := IntWalk.i64_in _ (by omega)
  go_region_with (go_at_call 27; (with_reducible refine (HE.out _ (by first | exact gb_drew _ _ | exact gb_drewN _ _ _)).mono ?_); rintro e w' ⟨rfl, rfl⟩)
  all_goals
    go_wp2
    go_ret3
    refine ⟨fun _ => ⟨?_, gb_trans gall (gb_drew _ _)⟩, fun h => absurd (by rw [← HO.out]; exact HZ.out) h⟩
    rw [← HK.out.1, ← HK.out.2]
    rfl
theorem open_any (s : ByteArray) (w : World) :
    Calls Tryd.prog 13 #[.string s] w (Opened w s.data.toList) := by
  by_cases h : (openF s.data.toList).1 = 0
  · exact open_good s w h
  · exact open_bad s w h
end Go.Proofs.YthemolnhncjlmaaDoor
