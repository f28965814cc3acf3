/-
  The chapter's examples (foyerlaw05.works), over this seat's translation; condition: the table of masks reads as the program lays it.
-/
import Derived.Test.YtcoegaipojnndaaDoorDw
import Derived.Test.YtcoegaipojnndaaDoorFl3
namespace Go.Proofs.YtcoegaipojnndaaDoor
open Go.RowKit Go.Maps

set_option maxRecDepth 100000 in
set_option maxHeartbeats 2000000 in
theorem works5_any (w : World) (hm : Masks w) : Calls Tryd.prog 15 #[] w (TrueGot w) := by
  have HM := Lib.hid hm
  have hpos := hm.lt
  clear hm
  go_enter Tryd.func15, Tryd.ntmps15
  go_wp2_with (first
    | (go_at_call 13; (with_reducible refine (s_new 64 64 _ w.heap.size rfl (Nat.le_refl _) (by omega) (by omega) q0 rfl).mono ?_); rintro e w1 ⟨p, rfl, hP0, b0⟩)
    | (go_at_call 19; (with_reducible refine (sector5_any 97 97 _ rfl).mono ?_); rintro e w2 ⟨rfl, g2⟩; have hP0' := hP0.keep0 g2; replace b0 := b0.trans (gb_base g2 hP0.2))
    | (go_at_call 19; (with_reducible refine (sector5_any 98 98 _ rfl).mono ?_); rintro e w3 ⟨rfl, g3⟩; have hP1 := hP0'.keep0 g3; replace b0 := b0.trans (gb_base g3 hP0'.2))
    | (go_at_call 18; (with_reducible refine (s_write hP1 3 sA q0_ok (by omega) (by omega) 0 q1 q0_e rfl).mono ?_); rintro e w4 ⟨rfl, hP2, b1⟩; replace b0 := b0.trans b1)
    | (go_at_call 29; (with_reducible refine (s_pending hP2 1 q1_p).mono ?_); rintro e w5 ⟨rfl, hP3, b1⟩; replace b0 := b0.trans b1)
    | (go_at_call 16; (with_reducible refine (s_read hP3 3 q1_ok (by omega) (by omega) 0 sA q2 q1_e q1_s rfl).mono ?_); rintro e w6 ⟨rfl, hP4, b1⟩; replace b0 := b0.trans b1)
    | (go_at_call 21; (with_reducible refine (s_barrier hP4 q2_ok (by omega) 0 q3 q2_e rfl).mono ?_); rintro e w7 ⟨rfl, hP5, b1⟩; replace b0 := b0.trans b1)
    | (go_at_call 29; (with_reducible refine (s_pending hP5 0 q3_p).mono ?_); rintro e w8 ⟨rfl, hP6, b1⟩; replace b0 := b0.trans b1)
    | (go_at_call 28; (with_reducible refine (s_ops hP6 3 q3_o).mono ?_); rintro e w9 ⟨rfl, hP7, b1⟩; replace b0 := b0.trans b1)
    | (go_at_call 23; (with_reducible refine (s_arm hP7 1 q4 rfl).mono ?_); rintro e w10 ⟨rfl, hP8, b1⟩; replace b0 := b0.trans b1)
    | (go_at_call 18; (with_reducible refine (s_write hP8 3 sB q4_ok (by omega) (by omega) 0 q5 q4_e rfl).mono ?_); rintro e w11 ⟨rfl, hP9, b1⟩; replace b0 := b0.trans b1)
    | (go_at_call 16; (with_reducible refine (s_read hP9 3 q5_ok (by omega) (by omega) 10 noS q6 q5_e q5_s rfl).mono ?_); rintro e w12 ⟨rfl, hP10, b1⟩; replace b0 := b0.trans b1)
    | (go_at_call 27; (with_reducible refine (s_off hP10 true q6_f).mono ?_); rintro e w13 ⟨rfl, hP11, b1⟩; replace b0 := b0.trans b1)
    | (go_at_call 25; (with_reducible refine (s_boot hP11 _ [] q6_ok (by omega) (HM.out.below b0 hpos) (Bts.nil _) q7 rfl).mono ?_); rintro e w14 ⟨rfl, hP12, b1⟩; replace b0 := b0.trans b1)
    | (go_at_call 16; (with_reducible refine (s_read hP12 3 q7_ok (by omega) (by omega) 0 sA q8 q7_e q7_s rfl).mono ?_); rintro e w15 ⟨rfl, hP13, b1⟩; replace b0 := b0.trans b1)
    | (go_at_call 18; (with_reducible refine (s_write hP13 64 sA q8_ok (by omega) (by omega) 2 q9 q8_e rfl).mono ?_); rintro e w16 ⟨rfl, hP14, b1⟩; replace b0 := b0.trans b1)
    | (go_at_call 18; (with_reducible refine (s_write hP14 0 sX q9_ok (by omega) (by omega) 2 (writeT q9 0 sX) q9_e rfl).mono ?_); rintro e w17 ⟨rfl, hP15, b1⟩; replace b0 := b0.trans b1))
  go_ret
  exact ⟨rfl, gb_of_below b0⟩
end Go.Proofs.YtcoegaipojnndaaDoor
