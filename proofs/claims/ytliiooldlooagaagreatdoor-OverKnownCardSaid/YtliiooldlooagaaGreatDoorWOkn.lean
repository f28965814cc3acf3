/-
  OverKnown's mathematics: a chain of three, and what is written over its pages; plain mathematics.
-/
import Derived.Test.YtliiooldlooagaaGreatDoorWOz
set_option linter.unusedSimpArgs false
set_option linter.unusedVariables false
namespace Go.Proofs.YtliiooldlooagaaGreatDoor.O12
open Go.RowKit J10
theorem rep_one (x : UInt8) (n : Nat) : Lib.repeatL [x] n = List.replicate n x := by
  induction n with
  | zero => rfl
  | succ n ih => rw [Lib.repeatL, ih]; rfl
/-- So many b's. -/
def rb (n : Nat) : ByteArray := ⟨(List.replicate n 98).toArray⟩
theorem rb_size (n : Nat) : (rb n).size = n := by show (List.replicate n (98 : UInt8)).toArray.size = n; simp
theorem rb_list (n : Nat) : (rb n).data.toList = List.replicate n 98 := rfl
theorem app_body (k : UInt8) (n : Nat) : (⟨#[0, k]⟩ : ByteArray) ++ rb n = bodyB k.toNat (List.replicate n 98) := by
  have h : ((⟨#[0, k]⟩ : ByteArray) ++ rb n).data = (bodyB k.toNat (List.replicate n 98)).data := by
    have hk := UInt8.toNat_lt k
    have e : bodyL k.toNat (List.replicate n 98) = 0 :: k :: List.replicate n 98 := by
      unfold bodyL
      rw [show k.toNat / 256 = 0 by omega, show k.toNat % 256 = k.toNat by omega, UInt8.ofNat_toNat]
      rfl
    show _ = (bodyL k.toNat (List.replicate n 98)).toArray
    rw [e]
    apply Array.ext'
    simp [rb]
  exact ByteArray.ext h
theorem bodyAt_upd {V : Pgs} {p : Int} {b : ByteArray} (h : 2 < b.size) : bodyAt (upd V p (2, b)) p = some b := by
  unfold bodyAt; rw [upd_same]; simp [h]
theorem bodyAt_off {V : Pgs} {p q : Int} (x : Nat × ByteArray) (h : q ≠ p) : bodyAt (upd V p x) q = bodyAt V q := by
  unfold bodyAt; rw [upd_off _ _ h]
theorem get3 {W : Pgs} {p2 p3 : List UInt8} (h3 : bodyAt W 3 = some (bodyB 2 p3)) (l3 : p3.length = 238) (h2 : bodyAt W 2 = some (bodyB 1 p2)) (l2 : p2.length = 238) : getL W 3 3 500 = (getL W 1 1 24).map fun r => p3 ++ (p2 ++ r) := by
  have n3 : nxt (bodyB 2 p3) = 2 := nxt_body (by omega) _
  have n2 : nxt (bodyB 1 p2) = 1 := nxt_body (by omega) _
  rw [get_more h3 ⟨by rw [bodyB_size, l3]; rfl, by rw [n3]; omega⟩, n3]
  show Option.map _ (getL W 2 2 262) = _
  rw [get_more h2 ⟨by rw [bodyB_size, l2]; rfl, by rw [n2]; omega⟩, n2]
  show Option.map _ (Option.map _ (getL W 1 1 24)) = _
  rw [Option.map_map]
  rfl
/-- The chain of five hundred b's. -/
structure Three (V : Pgs) : Prop where
  b3 : bodyAt V 3 = some (bodyB 2 (List.replicate 238 98))
  b2 : bodyAt V 2 = some (bodyB 1 (List.replicate 238 98))
theorem three_of {V : Pgs} (h : Ch V (down 3) (rb 500).data.toList) : Three V := by
  rw [rb_list] at h
  have h0 : Ch V [3, 2, 1] (List.replicate 500 98) := h
  have h1 := h0.2.2.2
  have a := Ch.bodyAt h0
  have b := Ch.bodyAt h1
  refine ⟨?_, ?_⟩
  · rw [a, List.take_replicate]; rfl
  · rw [b, List.drop_replicate, List.take_replicate]; rfl
theorem Three.upd1 {V : Pgs} (h : Three V) (x : Nat × ByteArray) : Three (upd V 1 x) := ⟨by rw [bodyAt_off _ (by decide)]; exact h.b3, by rw [bodyAt_off _ (by decide)]; exact h.b2⟩
theorem get_kind {V : Pgs} (h : Three V) (b : ByteArray) : getL (upd V 1 (4, b)) 3 3 500 = none := by
  have h1 := h.upd1 (4, b)
  rw [get3 h1.b3 List.length_replicate h1.b2 List.length_replicate, get_none (by unfold bodyAt; rw [upd_same]; simp)]
  rfl
theorem get_next {V : Pgs} (h : Three V) : getL (upd V 1 (2, (⟨#[0, 3]⟩ : ByteArray) ++ rb 24)) 3 3 500 = none := by
  have h1 := h.upd1 (2, (⟨#[0, 3]⟩ : ByteArray) ++ rb 24)
  have hb : (⟨#[0, 3]⟩ : ByteArray) ++ rb 24 = bodyB 3 (List.replicate 24 98) := app_body 3 24
  have e : bodyAt (upd V 1 (2, (⟨#[0, 3]⟩ : ByteArray) ++ rb 24)) 1 = some (bodyB 3 (List.replicate 24 98)) := by
    rw [hb]; exact bodyAt_upd (by rw [bodyB_size, List.length_replicate]; decide)
  have n3 : nxt (bodyB 3 (List.replicate 24 98)) = 3 := nxt_body (by omega) _
  rw [get3 h1.b3 List.length_replicate h1.b2 List.length_replicate, get_bad e (by rw [n3]; omega)]
  rfl
theorem get_good {V : Pgs} (h : Three V) : getL (upd V 1 (2, (⟨#[0, 0]⟩ : ByteArray) ++ rb 24)) 3 3 500 = some (rb 500).data.toList := by
  have h1 := h.upd1 (2, (⟨#[0, 0]⟩ : ByteArray) ++ rb 24)
  have hb : (⟨#[0, 0]⟩ : ByteArray) ++ rb 24 = bodyB 0 (List.replicate 24 98) := app_body 0 24
  have e : bodyAt (upd V 1 (2, (⟨#[0, 0]⟩ : ByteArray) ++ rb 24)) 1 = some (bodyB 0 (List.replicate 24 98)) := by
    rw [hb]; exact bodyAt_upd (by rw [bodyB_size, List.length_replicate]; decide)
  have n3 : nxt (bodyB 0 (List.replicate 24 98)) = 0 := nxt_body (by omega) _
  rw [get3 h1.b3 List.length_replicate h1.b2 List.length_replicate, get_more e ⟨by rw [bodyB_size, List.length_replicate]; rfl, by rw [n3]; omega⟩]
  show Option.map _ (Option.map _ (some [])) = _
  rw [rb_list, pce_body]
  show some (List.replicate 238 98 ++ (List.replicate 238 98 ++ (List.replicate 24 98 ++ []))) = _
  rw [List.append_nil, List.replicate_append_replicate, List.replicate_append_replicate]
theorem get_less {V : Pgs} (h : Three V) : getL (upd V 2 (2, (⟨#[0, 0]⟩ : ByteArray) ++ rb 238)) 3 3 500 = none := by
  have hb : (⟨#[0, 0]⟩ : ByteArray) ++ rb 238 = bodyB 0 (List.replicate 238 98) := app_body 0 238
  have e : bodyAt (upd V 2 (2, (⟨#[0, 0]⟩ : ByteArray) ++ rb 238)) 2 = some (bodyB 0 (List.replicate 238 98)) := by
    rw [hb]; exact bodyAt_upd (by rw [bodyB_size, List.length_replicate]; decide)
  have h3 : bodyAt (upd V 2 (2, (⟨#[0, 0]⟩ : ByteArray) ++ rb 238)) 3 = some (bodyB 2 (List.replicate 238 98)) := by rw [bodyAt_off _ (by decide)]; exact h.b3
  have n3 : nxt (bodyB 2 (List.replicate 238 98)) = 2 := nxt_body (by omega) _
  have n2 : nxt (bodyB 0 (List.replicate 238 98)) = 0 := nxt_body (by omega) _
  rw [get_more h3 ⟨by rw [bodyB_size, List.length_replicate]; rfl, by rw [n3]; omega⟩, n3]
  show Option.map _ (getL _ 2 2 262) = none
  rw [get_bad e (by rw [n2]; omega)]
  rfl
theorem drop_less {V : Pgs} (h : Three V) (x : Nat × ByteArray) : pagesL (del (upd V 2 x) 2) 9 3 = none := by
  have h3 : bodyAt (del (upd V 2 x) 2) 3 = some (bodyB 2 (List.replicate 238 98)) := by
    unfold bodyAt; rw [del_off _ (by decide), upd_off _ _ (by decide)]; exact h.b3
  have n3 : nxt (bodyB 2 (List.replicate 238 98)) = 2 := nxt_body (by omega) _
  rw [pages_more h3 (by rw [n3]; omega) (by rw [bodyB_size, List.length_replicate]), n3]
  show Option.map _ (pagesL _ 8 2) = none
  rw [pages_none (by unfold bodyAt; rw [del_same])]
  rfl
theorem cnt_over {V : Pgs} {p : Int} (hv : V p ≠ none) (x : Nat × ByteArray) : cntV (upd V p x) = cntV V := by
  unfold cntV
  refine List.countP_congr fun j _ => ?_
  unfold upd
  by_cases e : (j : Int) + 1 = p
  · rw [if_pos e, e]
    cases hh : V p with
    | none => exact absurd hh hv
    | some y => simp
  · rw [if_neg e]
end Go.Proofs.YtliiooldlooagaaGreatDoor.O12
