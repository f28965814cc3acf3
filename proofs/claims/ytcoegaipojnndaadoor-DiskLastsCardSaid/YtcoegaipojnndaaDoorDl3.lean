/-
  The statements' own look for mixed sectors (foyerlaw05.mixed), over this seat's translation; conditions: the slice reads as a list of texts of 256 bytes, the text has 256 bytes.
-/
import Derived.Test.YtcoegaipojnndaaDoorDl2
namespace Go.Proofs.YtcoegaipojnndaaDoor
open Go.RowKit

def bAt (s : ByteArray) (i : Nat) : UInt8 := s.data.toList.getD i 0
theorem bAt_get (s : ByteArray) (i : Nat) (h : i < s.size) : s[i] = bAt s i := by
  unfold bAt
  have h' : i < s.data.toList.length := by simpa using h
  rw [List.getD, List.getElem?_eq_getElem h']
  rfl
theorem cut_pre (d h : ByteArray) (c x : Nat) (hd : d.size = 256) (hc : c ≤ 256) (hx : x < c) : bAt (d.extract 0 c ++ h.extract c 256) x = bAt d x := by
  unfold bAt
  have hl : d.data.toList.length = 256 := by simpa using hd
  simp only [ByteArray.data_append, ByteArray.data_extract, Array.toList_append, Array.toList_extract, List.getD]
  congr 1
  rw [List.getElem?_append_left (by simp; omega)]
  simp [hx]
theorem cut_post (d h : ByteArray) (c x : Nat) (hd : d.size = 256) (hh : h.size = 256) (hc : c ≤ 256) (hx : c ≤ x) (hx2 : x < 256) : bAt (d.extract 0 c ++ h.extract c 256) x = bAt h x := by
  unfold bAt
  have hl : d.data.toList.length = 256 := by simpa using hd
  have hl2 : h.data.toList.length = 256 := by simpa using hh
  simp only [ByteArray.data_append, ByteArray.data_extract, Array.toList_append, Array.toList_extract, List.getD]
  congr 1
  rw [List.getElem?_append_right (by simp; omega)]
  simp
  rw [show x - min c d.size = x - c by rw [hd]; omega, List.getElem?_take, if_pos (by omega), List.getElem?_drop, show c + (x - c) = x by omega]
  simp
def hasM (s : ByteArray) (M : List ByteArray) : Bool := M.any fun d => decide (s = d)
theorem hasM_iff (s : ByteArray) (M : List ByteArray) : hasM s M = true ↔ s ∈ M := by
  unfold hasM
  rw [List.any_eq_true]
  constructor
  · rintro ⟨d, hd, h⟩; rw [of_decide_eq_true h]; exact hd
  · intro h; exact ⟨s, h, decide_eq_true rfl⟩
theorem hasM_snoc (s : ByteArray) (M : List ByteArray) (d : ByteArray) : hasM s (M ++ [d]) = (hasM s M || decide (s = d)) := by unfold hasM; simp
theorem txt_eq (x y : ByteArray) : (x.toList == y.toList) = decide (x = y) := by
  by_cases h : x = y
  · subst h; simp
  · have h2 : ¬ x.toList = y.toList := by
      rw [ByteArray.toList_eq, ByteArray.toList_eq]; intro e; exact h (ba_ext e)
    rw [decide_eq_false h]
    exact beq_eq_false_iff_ne.2 h2
def MixGot (w : World) (s : ByteArray) (M : List ByteArray) (e : Ending) (w' : World) : Prop := ∃ T, e = .returned (.tuple #[.bool (hasM s M), .bool T]) ∧ (s ∉ M → Parted M s → T = true) ∧ w.grownBy w' none
set_option maxRecDepth 100000 in
set_option maxHeartbeats 4000000 in
theorem mixed_any (v : Value) (s : ByteArray) (M : List ByteArray) (w : World) (hv : Sts w v M) (hs : s.size = 256) (hM : ∀ d ∈ M, d.size = 256) (hl : M.length ≤ 1000) : Calls Tryd.prog 31 #[.string s, v] w (MixGot w s M) := by
  obtain ⟨ao, cap, rfl, _, _, hn, hx⟩ := hv
  have HN := Lib.hid hn
  have HX := Lib.hid hx
  have HM := Lib.hid hM
  clear hn hx hM
  go_enter Tryd.func31, Tryd.ntmps31
  go_wp2_with fail
  go_loopw [4, 6] (fun v4 v6 wr => ∃ i : Nat, i ≤ M.length ∧ v6 = .int .i64 i ∧ v4 = .bool (hasM s (M.take i)) ∧ w.grownBy wr none) (fun _ v _ => M.length - (intOf v).toNat)
  case atStart => exact ⟨0, by omega, rfl, rfl, gb_refl _ _⟩
  case round =>
    obtain ⟨i, hi, rfl, rfl, hg⟩ := hrel
    by_cases hlt : i < M.length
    · have hd1 : decide ((i : Int) < (M.length : Int)) = true := decide_eq_true (by omega)
      cases ao with
      | none => have := (HN.out rfl).1; omega
      | some y =>
        have hxk := List.getElem?_eq_getElem hlt
        have hdm : M[i] ∈ M := List.getElem_mem hlt
        generalize M[i] = d at hxk hdm
        have c0 := hg.cell (HX.out y rfl i (.string d) (by simp [strsC, hxk])) (by simp)
        have ht := take_one' M i d hxk
        have hi0 : (0 : Int) ≤ (i : Int) := by omega
        have hi1 : (i : Int) < (M.length : Int) := by omega
        cases hw : hasM s (M.take i) with
        | true =>
          have hn1 : hasM s (M.take (i + 1)) = true := by rw [ht, hasM_snoc, hw]; rfl
          have HN1 := Lib.hid hn1
          clear ht hn1 hxk hw
          go_wp2
          go_roundw
          case rel => exact ⟨i + 1, by omega, by go_num, by rw [HN1.out], hg⟩
          case measure => simp [intOf]; omega
        | false =>
          have hn1 : hasM s (M.take (i + 1)) = (s.toList == d.toList) := by rw [ht, hasM_snoc, hw, txt_eq]; rfl
          have HN1 := Lib.hid hn1
          clear ht hn1 hxk hw
          go_wp2
          go_roundw
          case rel => exact ⟨i + 1, by omega, by go_num, by rw [HN1.out], hg⟩
          case measure => simp [intOf]; omega
    · obtain rfl : i = M.length := by omega
      have hlt' : decide ((M.length : Int) < (M.length : Int)) = false := decide_eq_false (by omega)
      rw [List.take_of_length_le (Nat.le_refl _)]
      cases hw : hasM s M with
      | true =>
        have hin := (hasM_iff s M).1 hw
        have hpos : (0 : Int) < (M.length : Int) := by have := List.length_pos_of_mem hin; omega
        have HW := Lib.hid (And.intro hw hin)
        clear hw hin
        go_wp2
        refine wp_loop_rounds 1 ?_
        rw [rounds_succ]
        go_wp2
        go_ret2
        exact ⟨_, by rw [HW.out.1]; rfl, fun h => absurd HW.out.2 h, hg⟩
      | false =>
        have HW := Lib.hid hw
        clear hw
        go_wp2
        go_loopw [5, 7] (fun v5 v7 wr => ∃ (i : Nat) (T : Bool), i ≤ M.length ∧ v7 = .int .i64 i ∧ v5 = .bool T ∧ (∀ i', i' < i → ∀ d, M[i']? = some d → ∀ h, h ∈ M → ∀ c, c ≤ 256 → s = d.extract 0 c ++ h.extract c 256 → T = true) ∧ w.grownBy wr none) (fun _ v _ => M.length - (intOf v).toNat)
        case atStart => exact ⟨0, false, by omega, rfl, rfl, fun i' h => by omega, hg⟩
        case round =>
          clear hg
          obtain ⟨i, T, hi, rfl, rfl, hT, hg⟩ := hrel
          have HT := Lib.hid hT
          clear hT
          by_cases hlt : i < M.length
          · have hd1 : decide ((i : Int) < (M.length : Int)) = true := decide_eq_true (by omega)
            cases ao with
            | none => have := (HN.out rfl).1; omega
            | some y =>
              obtain ⟨d, hxk⟩ : ∃ d, M[i]? = some d := ⟨_, List.getElem?_eq_getElem hlt⟩
              have hds := HM.out d (List.mem_of_getElem? hxk)
              have hi0 : (0 : Int) ≤ (i : Int) := by omega
              have hi1 : (i : Int) < (M.length : Int) := by omega
              have HXK := Lib.hid hxk
              clear hxk
              go_wp2
              go_loopw [8] (fun v8 wz => ∃ k : Nat, k ≤ 256 ∧ v8 = .int .i64 k ∧ (∀ x, x < k → bAt s x = bAt d x) ∧ w.grownBy wz none) (fun v _ => 256 - (intOf v).toNat)
              case atStart => exact ⟨0, by omega, rfl, fun x h => by omega, hg⟩
              case round =>
                clear hg
                obtain ⟨k, hk, rfl, hke, hg⟩ := hrel
                have c0 := hg.cell (HX.out y rfl i (.string d) (by simp [strsC, HXK.out])) (by simp)
                have HKE := Lib.hid hke
                clear hke
                by_cases hk6 : k < 256
                · have hd2 : decide ((k : Int) < 256) = true := decide_eq_true (by omega)
                  have hk0 : (0 : Int) ≤ (k : Int) := by omega
                  have hk1 : (k : Int) < 256 := by omega
                  by_cases hb : bAt s k = bAt d k
                  · have hbb : ((s[k].toNat : Int) == (d[k].toNat : Int)) = true := by rw [bAt_get s k (by omega), bAt_get d k (by omega), hb]; simp
                    go_wp2
                    go_region
                    all_goals go_wp2
                    all_goals
                      go_roundw
                      case rel =>
                        refine ⟨k + 1, by omega, by go_num, fun x hx => ?_, gb_trans hg (gb_drew _ _)⟩
                        rcases Nat.lt_or_ge x k with h1 | h1
                        · exact HKE.out x h1
                        · obtain rfl : x = k := by omega
                          exact hb
                      case measure => simp [intOf]; omega
                  · have hbb : ((s[k].toNat : Int) == (d[k].toNat : Int)) = false := by
                      rw [bAt_get s k (by omega), bAt_get d k (by omega)]
                      refine beq_eq_false_iff_ne.2 (fun e => hb ?_)
                      exact UInt8.toNat_inj.1 (by omega)
                    have hkc : ∀ c, c ≤ 256 → (∀ x, x < c → bAt s x = bAt d x) → c ≤ k := by
                      intro c _ hx
                      rcases Nat.lt_or_ge k c with h1 | h1
                      · exact absurd (hx k h1) hb
                      · exact h1
                    have HK := Lib.hid hkc
                    clear hkc hb
                    go_wp2
                    go_region
                    all_goals go_wp2
                    all_goals clear hbb c0
                    go_loopw [5, 9] (fun v5 v9 wq => ∃ (j : Nat) (U : Bool), j ≤ M.length ∧ v9 = .int .i64 j ∧ v5 = .bool U ∧ (T = true → U = true) ∧ (∀ j', j' < j → ∀ h, M[j']? = some h → ∀ c, c ≤ 256 → s = d.extract 0 c ++ h.extract c 256 → U = true) ∧ w.grownBy wq none) (fun _ v _ => M.length - (intOf v).toNat)
                    case atStart => exact ⟨0, T, by omega, rfl, rfl, id, fun j' h => by omega, by first | exact gb_trans hg (gb_drew _ _) | exact hg⟩
                    case round =>
                      clear hg
                      obtain ⟨j, U, hj, rfl, rfl, hU1, hU2, hg⟩ := hrel
                      have HU := Lib.hid (And.intro hU1 hU2)
                      clear hU1 hU2
                      by_cases hjl : j < M.length
                      · have hd3 : decide ((j : Int) < (M.length : Int)) = true := decide_eq_true (by omega)
                        obtain ⟨h, hxh⟩ : ∃ h, M[j]? = some h := ⟨_, List.getElem?_eq_getElem hjl⟩
                        have hhs := HM.out h (List.mem_of_getElem? hxh)
                        have HXH := Lib.hid hxh
                        clear hxh
                        have hj0 : (0 : Int) ≤ (j : Int) := by omega
                        have hj1 : (j : Int) < (M.length : Int) := by omega
                        go_wp2
                        go_loopw [10] (fun v10 wp => ∃ n : Nat, n ≤ 256 ∧ v10 = .int .i64 n ∧ (∀ x, n ≤ x → x < 256 → bAt s x = bAt h x) ∧ w.grownBy wp none) (fun v _ => (intOf v).toNat)
                        case atStart => exact ⟨256, by omega, rfl, fun x h1 h2 => by omega, hg⟩
                        case round =>
                          clear hg
                          obtain ⟨n, hn, rfl, hne, hg⟩ := hrel
                          have HNE := Lib.hid hne
                          clear hne
                          have c1 := hg.cell (HX.out y rfl j (.string h) (by simp [strsC, HXH.out])) (by simp)
                          by_cases hn0 : 0 < n
                          · obtain ⟨m, rfl⟩ : ∃ m, n = m + 1 := ⟨n - 1, by omega⟩
                            have hd4 : decide ((0 : Int) < ((m + 1 : Nat) : Int)) = true := decide_eq_true (by omega)
                            have hw : IntKind.i64.wrap (((m + 1 : Nat) : Int) - 1) = (m : Int) := by rw [show (((m + 1 : Nat) : Int) - 1) = (m : Int) by omega]; exact IntWalk.i64_in _ (by omega)
                            have hm0 : (0 : Int) ≤ (m : Int) := by omega
                            have hm1 : (m : Int) < 256 := by omega
                            obtain ⟨z, hz⟩ : ∃ z : Int, ((m + 1 : Nat) : Int) = z := ⟨_, rfl⟩
                            rw [hz] at hd4 hw ⊢
                            by_cases hb : bAt s m = bAt h m
                            · have hbb : ((s[m].toNat : Int) == (h[m].toNat : Int)) = true := by rw [bAt_get s m (by omega), bAt_get h m (by omega), hb]; simp
                              go_wp2
                              go_region
                              all_goals go_wp2
                              all_goals
                                go_roundw
                                case rel =>
                                  refine ⟨m, by omega, rfl, fun x hx hx2 => ?_, gb_trans hg (gb_drew _ _)⟩
                                  rcases Nat.lt_or_ge m x with h1 | h1
                                  · exact HNE.out x (by omega) hx2
                                  · obtain rfl : x = m := by omega
                                    exact hb
                                case measure => simp [intOf]; omega
                            · have hbb : ((s[m].toNat : Int) == (h[m].toNat : Int)) = false := by
                                rw [bAt_get s m (by omega), bAt_get h m (by omega)]
                                refine beq_eq_false_iff_ne.2 (fun e => hb ?_)
                                exact UInt8.toNat_inj.1 (by omega)
                              have hnc : ∀ c, (∀ x, c ≤ x → x < 256 → bAt s x = bAt h x) → m + 1 ≤ c := by
                                intro c hx
                                rcases Nat.lt_or_ge m c with h1 | h1
                                · exact h1
                                · exact absurd (hx m h1 (by omega)) hb
                              have HNC := Lib.hid hnc
                              clear hnc hb
                              have hkk : ∀ c, c ≤ 256 → s = d.extract 0 c ++ h.extract c 256 → (m + 1) ≤ k := by
                                intro c hc he
                                have h1 : c ≤ k := HK.out c hc (fun x hx => by rw [he]; exact cut_pre d h c x hds hc hx)
                                have h2 : (m + 1) ≤ c := HNC.out c (fun x hx hx2 => by rw [he]; exact cut_post d h c x hds hhs hc hx hx2)
                                omega
                              have HKK := Lib.hid hkk
                              clear hkk
                              cases U with
                              | true =>
                                go_wp2
                                go_region
                                all_goals go_wp2
                                all_goals
                                  go_roundw
                                  case rel => exact ⟨j + 1, true, by omega, by go_num, rfl, fun _ => rfl, fun _ _ _ _ _ _ _ => rfl, gb_trans hg (gb_drew _ _)⟩
                                  case measure => simp [intOf]; omega
                              | false =>
                                by_cases hnk : (m + 1) ≤ k
                                · have hdn : decide (z ≤ (k : Int)) = true := decide_eq_true (by omega)
                                  go_wp2
                                  go_region
                                  all_goals go_wp2
                                  all_goals
                                    go_roundw
                                    case rel => exact ⟨j + 1, true, by omega, by go_num, rfl, fun _ => rfl, fun _ _ _ _ _ _ _ => rfl, gb_trans hg (gb_drew _ _)⟩
                                    case measure => simp [intOf]; omega
                                · have hdn : decide (z ≤ (k : Int)) = false := decide_eq_false (by omega)
                                  go_wp2
                                  go_region
                                  all_goals go_wp2
                                  all_goals
                                    go_roundw
                                    case rel =>
                                      refine ⟨j + 1, false, by omega, by go_num, rfl, HU.out.1, fun j' hj' h' hm' c hc he => ?_, gb_trans hg (gb_drew _ _)⟩
                                      by_cases hjj : j' < j
                                      · exact HU.out.2 j' hjj h' hm' c hc he
                                      · obtain rfl : j' = j := by omega
                                        rw [HXH.out] at hm'
                                        cases hm'
                                        exact absurd (HKK.out c hc he) hnk
                                    case measure => simp [intOf]; omega
                          · obtain rfl : n = 0 := by omega
                            have hnc : ∀ c, (∀ x, c ≤ x → x < 256 → bAt s x = bAt h x) → 0 ≤ c := fun c _ => Nat.zero_le c
                            have HNC := Lib.hid hnc
                            clear hnc
                            have hkk : ∀ c, c ≤ 256 → s = d.extract 0 c ++ h.extract c 256 → 0 ≤ k := by
                              intro c hc he
                              have h1 : c ≤ k := HK.out c hc (fun x hx => by rw [he]; exact cut_pre d h c x hds hc hx)
                              have h2 : 0 ≤ c := HNC.out c (fun x hx hx2 => by rw [he]; exact cut_post d h c x hds hhs hc hx hx2)
                              omega
                            have HKK := Lib.hid hkk
                            clear hkk
                            cases U with
                            | true =>
                              go_wp2
                              go_region
                              all_goals go_wp2
                              all_goals
                                go_roundw
                                case rel => exact ⟨j + 1, true, by omega, by go_num, rfl, fun _ => rfl, fun _ _ _ _ _ _ _ => rfl, gb_trans hg (gb_drew _ _)⟩
                                case measure => simp [intOf]; omega
                            | false =>
                              go_wp2
                              go_region
                              all_goals go_wp2
                              all_goals
                                go_roundw
                                case rel => exact ⟨j + 1, true, by omega, by go_num, rfl, fun _ => rfl, fun _ _ _ _ _ _ _ => rfl, gb_trans hg (gb_drew _ _)⟩
                                case measure => simp [intOf]; omega
                      · obtain rfl : j = M.length := by omega
                        have hd3 : decide ((M.length : Int) < (M.length : Int)) = false := decide_eq_false (by omega)
                        go_wp2
                        go_roundw
                        case rel =>
                          refine ⟨i + 1, U, by omega, by go_num, rfl, fun i' hi' d' hd' h' hh' c hc he => ?_, hg⟩
                          by_cases hii : i' < i
                          · exact HU.out.1 (HT.out i' hii d' hd' h' hh' c hc he)
                          · obtain rfl : i' = i := by omega
                            rw [HXK.out] at hd'
                            cases hd'
                            obtain ⟨j', hj', e'⟩ := List.mem_iff_getElem.1 hh'
                            exact HU.out.2 j' hj' h' (by rw [List.getElem?_eq_getElem hj', e']) c hc he
                        case measure => simp [intOf]; omega
                · have hd2 : decide ((k : Int) < 256) = false := decide_eq_false (by omega)
                  have hkc : ∀ c, c ≤ 256 → (∀ x, x < c → bAt s x = bAt d x) → c ≤ k := fun c h _ => by omega
                  have HK := Lib.hid hkc
                  clear hkc
                  go_wp2
                  go_region
                  all_goals go_wp2
                  all_goals clear c0
                  go_loopw [5, 9] (fun v5 v9 wq => ∃ (j : Nat) (U : Bool), j ≤ M.length ∧ v9 = .int .i64 j ∧ v5 = .bool U ∧ (T = true → U = true) ∧ (∀ j', j' < j → ∀ h, M[j']? = some h → ∀ c, c ≤ 256 → s = d.extract 0 c ++ h.extract c 256 → U = true) ∧ w.grownBy wq none) (fun _ v _ => M.length - (intOf v).toNat)
                  case atStart => exact ⟨0, T, by omega, rfl, rfl, id, fun j' h => by omega, by first | exact gb_trans hg (gb_drew _ _) | exact hg⟩
                  case round =>
                    clear hg
                    obtain ⟨j, U, hj, rfl, rfl, hU1, hU2, hg⟩ := hrel
                    have HU := Lib.hid (And.intro hU1 hU2)
                    clear hU1 hU2
                    by_cases hjl : j < M.length
                    · have hd3 : decide ((j : Int) < (M.length : Int)) = true := decide_eq_true (by omega)
                      obtain ⟨h, hxh⟩ : ∃ h, M[j]? = some h := ⟨_, List.getElem?_eq_getElem hjl⟩
                      have hhs := HM.out h (List.mem_of_getElem? hxh)
                      have HXH := Lib.hid hxh
                      clear hxh
                      have hj0 : (0 : Int) ≤ (j : Int) := by omega
                      have hj1 : (j : Int) < (M.length : Int) := by omega
                      go_wp2
                      go_loopw [10] (fun v10 wp => ∃ n : Nat, n ≤ 256 ∧ v10 = .int .i64 n ∧ (∀ x, n ≤ x → x < 256 → bAt s x = bAt h x) ∧ w.grownBy wp none) (fun v _ => (intOf v).toNat)
                      case atStart => exact ⟨256, by omega, rfl, fun x h1 h2 => by omega, hg⟩
                      case round =>
                        clear hg
                        obtain ⟨n, hn, rfl, hne, hg⟩ := hrel
                        have HNE := Lib.hid hne
                        clear hne
                        have c1 := hg.cell (HX.out y rfl j (.string h) (by simp [strsC, HXH.out])) (by simp)
                        by_cases hn0 : 0 < n
                        · obtain ⟨m, rfl⟩ : ∃ m, n = m + 1 := ⟨n - 1, by omega⟩
                          have hd4 : decide ((0 : Int) < ((m + 1 : Nat) : Int)) = true := decide_eq_true (by omega)
                          have hw : IntKind.i64.wrap (((m + 1 : Nat) : Int) - 1) = (m : Int) := by rw [show (((m + 1 : Nat) : Int) - 1) = (m : Int) by omega]; exact IntWalk.i64_in _ (by omega)
                          have hm0 : (0 : Int) ≤ (m : Int) := by omega
                          have hm1 : (m : Int) < 256 := by omega
                          obtain ⟨z, hz⟩ : ∃ z : Int, ((m + 1 : Nat) : Int) = z := ⟨_, rfl⟩
                          rw [hz] at hd4 hw ⊢
                          by_cases hb : bAt s m = bAt h m
                          · have hbb : ((s[m].toNat : Int) == (h[m].toNat : Int)) = true := by rw [bAt_get s m (by omega), bAt_get h m (by omega), hb]; simp
                            go_wp2
                            go_region
                            all_goals go_wp2
                            all_goals
                              go_roundw
                              case rel =>
                                refine ⟨m, by omega, rfl, fun x hx hx2 => ?_, gb_trans hg (gb_drew _ _)⟩
                                rcases Nat.lt_or_ge m x with h1 | h1
                                · exact HNE.out x (by omega) hx2
                                · obtain rfl : x = m := by omega
                                  exact hb
                              case measure => simp [intOf]; omega
                          · have hbb : ((s[m].toNat : Int) == (h[m].toNat : Int)) = false := by
                              rw [bAt_get s m (by omega), bAt_get h m (by omega)]
                              refine beq_eq_false_iff_ne.2 (fun e => hb ?_)
                              exact UInt8.toNat_inj.1 (by omega)
                            have hnc : ∀ c, (∀ x, c ≤ x → x < 256 → bAt s x = bAt h x) → m + 1 ≤ c := by
                              intro c hx
                              rcases Nat.lt_or_ge m c with h1 | h1
                              · exact h1
                              · exact absurd (hx m h1 (by omega)) hb
                            have HNC := Lib.hid hnc
                            clear hnc hb
                            have hkk : ∀ c, c ≤ 256 → s = d.extract 0 c ++ h.extract c 256 → (m + 1) ≤ k := by
                              intro c hc he
                              have h1 : c ≤ k := HK.out c hc (fun x hx => by rw [he]; exact cut_pre d h c x hds hc hx)
                              have h2 : (m + 1) ≤ c := HNC.out c (fun x hx hx2 => by rw [he]; exact cut_post d h c x hds hhs hc hx hx2)
                              omega
                            have HKK := Lib.hid hkk
                            clear hkk
                            cases U with
                            | true =>
                              go_wp2
                              go_region
                              all_goals go_wp2
                              all_goals
                                go_roundw
                                case rel => exact ⟨j + 1, true, by omega, by go_num, rfl, fun _ => rfl, fun _ _ _ _ _ _ _ => rfl, gb_trans hg (gb_drew _ _)⟩
                                case measure => simp [intOf]; omega
                            | false =>
                              by_cases hnk : (m + 1) ≤ k
                              · have hdn : decide (z ≤ (k : Int)) = true := decide_eq_true (by omega)
                                go_wp2
                                go_region
                                all_goals go_wp2
                                all_goals
                                  go_roundw
                                  case rel => exact ⟨j + 1, true, by omega, by go_num, rfl, fun _ => rfl, fun _ _ _ _ _ _ _ => rfl, gb_trans hg (gb_drew _ _)⟩
                                  case measure => simp [intOf]; omega
                              · have hdn : decide (z ≤ (k : Int)) = false := decide_eq_false (by omega)
                                go_wp2
                                go_region
                                all_goals go_wp2
                                all_goals
                                  go_roundw
                                  case rel =>
                                    refine ⟨j + 1, false, by omega, by go_num, rfl, HU.out.1, fun j' hj' h' hm' c hc he => ?_, gb_trans hg (gb_drew _ _)⟩
                                    by_cases hjj : j' < j
                                    · exact HU.out.2 j' hjj h' hm' c hc he
                                    · obtain rfl : j' = j := by omega
                                      rw [HXH.out] at hm'
                                      cases hm'
                                      exact absurd (HKK.out c hc he) hnk
                                  case measure => simp [intOf]; omega
                        · obtain rfl : n = 0 := by omega
                          have hnc : ∀ c, (∀ x, c ≤ x → x < 256 → bAt s x = bAt h x) → 0 ≤ c := fun c _ => Nat.zero_le c
                          have HNC := Lib.hid hnc
                          clear hnc
                          have hkk : ∀ c, c ≤ 256 → s = d.extract 0 c ++ h.extract c 256 → 0 ≤ k := by
                            intro c hc he
                            have h1 : c ≤ k := HK.out c hc (fun x hx => by rw [he]; exact cut_pre d h c x hds hc hx)
                            have h2 : 0 ≤ c := HNC.out c (fun x hx hx2 => by rw [he]; exact cut_post d h c x hds hhs hc hx hx2)
                            omega
                          have HKK := Lib.hid hkk
                          clear hkk
                          cases U with
                          | true =>
                            go_wp2
                            go_region
                            all_goals go_wp2
                            all_goals
                              go_roundw
                              case rel => exact ⟨j + 1, true, by omega, by go_num, rfl, fun _ => rfl, fun _ _ _ _ _ _ _ => rfl, gb_trans hg (gb_drew _ _)⟩
                              case measure => simp [intOf]; omega
                          | false =>
                            go_wp2
                            go_region
                            all_goals go_wp2
                            all_goals
                              go_roundw
                              case rel => exact ⟨j + 1, true, by omega, by go_num, rfl, fun _ => rfl, fun _ _ _ _ _ _ _ => rfl, gb_trans hg (gb_drew _ _)⟩
                              case measure => simp [intOf]; omega
                    · obtain rfl : j = M.length := by omega
                      have hd3 : decide ((M.length : Int) < (M.length : Int)) = false := decide_eq_false (by omega)
                      go_wp2
                      go_roundw
                      case rel =>
                        refine ⟨i + 1, U, by omega, by go_num, rfl, fun i' hi' d' hd' h' hh' c hc he => ?_, hg⟩
                        by_cases hii : i' < i
                        · exact HU.out.1 (HT.out i' hii d' hd' h' hh' c hc he)
                        · obtain rfl : i' = i := by omega
                          rw [HXK.out] at hd'
                          cases hd'
                          obtain ⟨j', hj', e'⟩ := List.mem_iff_getElem.1 hh'
                          exact HU.out.2 j' hj' h' (by rw [List.getElem?_eq_getElem hj', e']) c hc he
                      case measure => simp [intOf]; omega
          · obtain rfl : i = M.length := by omega
            have hd1 : decide ((M.length : Int) < (M.length : Int)) = false := decide_eq_false (by omega)
            go_wp2
            go_ret2
            refine ⟨T, by rw [HW.out]; rfl, fun _ hp => ?_, hg⟩
            obtain ⟨d, h, c, h1, h2, h3, h4⟩ := hp
            obtain ⟨i', hi', e'⟩ := List.mem_iff_getElem.1 h1
            exact HT.out i' hi' d (by rw [List.getElem?_eq_getElem hi', e']) h h2 c h3 h4
end Go.Proofs.YtcoegaipojnndaaDoor
