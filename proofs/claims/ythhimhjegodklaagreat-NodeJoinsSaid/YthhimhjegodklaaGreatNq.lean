/-
  How a node is read of bytes, as plain mathematics: what is laid is read back, and what is read is laid again just so. No conditions beside those that each law states.
-/
import Derived.Test.YthhimhjegodklaaGreatNp
namespace Go.Proofs.YthhimhjegodklaaGreat.N11
set_option linter.unusedSimpArgs false
set_option linter.unusedVariables false
open Go.RowKit
def textR : List UInt8 → Option (ByteArray × List UInt8)
  | [] => none
  | c :: r => if c.toNat ≤ r.length then some (⟨(r.take c.toNat).toArray⟩, r.drop c.toNat) else none
def numR : List UInt8 → Option (Nat × List UInt8)
  | c :: d :: r => some (c.toNat * 256 + d.toNat, r)
  | _ => none
def longR (k : ByteArray) (l : List UInt8) : Option (Ce × List UInt8) :=
  (numR l).bind fun f => (numR f.2).bind fun o => if keyB k && longB ⟨k, noS, f.1, o.1⟩ then some (⟨k, noS, f.1, o.1⟩, o.2) else none
def shortR (k : ByteArray) (l : List UInt8) : Option (Ce × List UInt8) :=
  (textR l).bind fun v => if keyB k && shortB ⟨k, v.1, 0, 0⟩ then some (⟨k, v.1, 0, 0⟩, v.2) else none
def cellR (l : List UInt8) : Option (Ce × List UInt8) :=
  (textR l).bind fun k => if k.2.head? = some 255 then longR k.1 k.2.tail else shortR k.1 k.2
def cellsR (last : ByteArray) : Nat → List UInt8 → Option (List Ce × List UInt8)
  | 0, l => some ([], l)
  | n + 1, l => (cellR l).bind fun c => if ltS last c.1.key then (cellsR c.1.key n c.2).bind fun cs => some (c.1 :: cs.1, cs.2) else none
def kidR (l : List UInt8) : Option (Int × List UInt8) := (numR l).bind fun n => if pageB n.1 then some ((n.1 : Int), n.2) else none
def keyR (l : List UInt8) : Option (ByteArray × List UInt8) := (textR l).bind fun k => if keyB k.1 then some k else none
def keysR (last : ByteArray) : Nat → List UInt8 → Option ((List ByteArray × List Int) × List UInt8)
  | 0, l => some (([], []), l)
  | n + 1, l => (keyR l).bind fun k => if ltS last k.1 then (kidR k.2).bind fun i => (keysR k.1 n i.2).bind fun x => some ((k.1 :: x.1.1, i.1 :: x.1.2), x.2) else none
def innerR (n : Nat) (l : List UInt8) : Option (Nd × List UInt8) := (kidR l).bind fun i => (keysR noS n i.2).bind fun x => some (⟨false, [], x.1.1, i.1 :: x.1.2⟩, x.2)
def leafR (n : Nat) (l : List UInt8) : Option (Nd × List UInt8) := (cellsR noS n l).bind fun x => some (⟨true, x.1, [], []⟩, x.2)
def endR (x : Option (Nd × List UInt8)) : Option Nd := x.bind fun y => if y.2.length = 0 then some y.1 else none
def getF (l : List UInt8) : Option Nd :=
  if 240 < l.length then none else match l with
    | m :: c :: r => if c.toNat = 0 then none else if m.toNat = 1 then endR (leafR c.toNat r) else if m.toNat = 2 then endR (innerR c.toNat r) else none
    | _ => none
theorem digits1 (n : Nat) : digits n 1 = [UInt8.ofNat (n % 256)] := rfl
theorem digits2 (n : Nat) : digits n 2 = [UInt8.ofNat (n / 256 % 256), UInt8.ofNat (n % 256)] := rfl
theorem ba_eq {a : ByteArray} {l : List UInt8} (h : a.data.toList = l) : (⟨l.toArray⟩ : ByteArray) = a := by
  subst h; cases a; simp
theorem size_list (s : ByteArray) : s.data.toList.length = s.size := Array.length_toList
theorem textR_put (s : ByteArray) (r : List UInt8) (h : s.size ≤ 255) : textR (textL s ++ r) = some (s, r) := by
  unfold textL
  rw [digits1, Nat.mod_eq_of_lt (by omega)]
  show textR (UInt8.ofNat s.size :: (s.data.toList ++ r)) = _
  have e : (UInt8.ofNat s.size).toNat = s.size := by simp; omega
  show (if (UInt8.ofNat s.size).toNat ≤ (s.data.toList ++ r).length then some ((⟨((s.data.toList ++ r).take (UInt8.ofNat s.size).toNat).toArray⟩ : ByteArray), (s.data.toList ++ r).drop (UInt8.ofNat s.size).toNat) else none) = _
  rw [e, if_pos (by rw [List.length_append, size_list]; omega), ← size_list s, List.take_left, List.drop_left, ba_eq rfl]
theorem textR_got {l r : List UInt8} {s : ByteArray} (h : textR l = some (s, r)) : s.size ≤ 255 ∧ l = textL s ++ r := by
  cases l with
  | nil => cases h
  | cons c t =>
    change (if c.toNat ≤ t.length then some ((⟨(t.take c.toNat).toArray⟩ : ByteArray), t.drop c.toNat) else none) = some (s, r) at h
    split at h
    · rename_i hc
      injection h with h
      injection h with h1 h2
      have hz : s.size = c.toNat := by rw [← h1]; show (List.take c.toNat t).toArray.size = _; simp; omega
      have hb := c.toNat_lt
      refine ⟨by omega, ?_⟩
      unfold textL
      rw [digits1, hz, Nat.mod_eq_of_lt hb, UInt8.ofNat_toNat, ← h1, ← h2]
      simp
    · cases h
theorem numR_put (n : Nat) (r : List UInt8) (h : n < 65536) : numR (digits n 2 ++ r) = some (n, r) := by
  rw [digits2]
  show some ((UInt8.ofNat (n / 256 % 256)).toNat * 256 + (UInt8.ofNat (n % 256)).toNat, r) = _
  congr 2
  simp
  omega
theorem numR_got {l r : List UInt8} {n : Nat} (h : numR l = some (n, r)) : n < 65536 ∧ l = digits n 2 ++ r := by
  match l, h with
  | c :: d :: t, h =>
    injection h with h
    injection h with h1 h2
    have hc := c.toNat_lt
    have hd := d.toNat_lt
    refine ⟨by omega, ?_⟩
    rw [digits2, ← h1, ← h2]
    have e1 : (c.toNat * 256 + d.toNat) / 256 % 256 = c.toNat := by omega
    have e2 : (c.toNat * 256 + d.toNat) % 256 = d.toNat := by omega
    rw [e1, e2, UInt8.ofNat_toNat, UInt8.ofNat_toNat]; rfl
  | [_], h => cases h
  | [], h => cases h
theorem size0 {s : ByteArray} (h : s.size = 0) : s = noS := by
  obtain ⟨⟨l⟩⟩ := s
  have : l.length = 0 := h
  have : l = [] := List.eq_nil_of_length_eq_zero this
  subst this; rfl
theorem cellR_put (c : Ce) (r : List UInt8) (h : cellB c = true) : cellR (cellL c ++ r) = some (c, r) := by
  obtain ⟨k, v, f, o⟩ := c
  obtain ⟨h1, h2, h3⟩ := cellB_parts h
  have hk : keyB k = true := by unfold cellB at h; simp only [Bool.and_eq_true] at h; exact h.1
  unfold cellL cellR
  rw [List.append_assoc, textR_put _ _ (show k.size ≤ 255 by omega), Option.bind_some]
  try dsimp only
  rcases hb : longB ⟨k, v, f, o⟩ with _ | _
  · have e : valL ⟨k, v, f, o⟩ = textL v := by unfold valL; rw [hb]; rfl
    have hs : shortB ⟨k, v, f, o⟩ = true := by unfold cellB at h; rw [hb] at h; simp only [Bool.and_eq_true, Bool.or_false] at h; exact h.2
    have hs2 := hs
    simp only [shortB, Bool.and_eq_true, decide_eq_true_eq] at hs2
    obtain ⟨⟨_, rfl⟩, rfl⟩ := hs2
    rw [e, if_neg ?_]
    · unfold shortR
      rw [textR_put _ _ (by omega), Option.bind_some]
      try dsimp only
      rw [hk, hs]; rfl
    · unfold textL
      rw [digits1, Nat.mod_eq_of_lt (by omega)]
      show ¬ some (UInt8.ofNat v.size) = some 255
      intro he
      have := congrArg UInt8.toNat (Option.some.inj he)
      simp at this
      omega
  · obtain ⟨m, q, rfl, rfl, hm, hq⟩ := h3 hb
    have e : valL ⟨k, v, m, q⟩ = digits 255 1 ++ digits m 2 ++ digits q 2 := by unfold valL; rw [hb]; rfl
    have hv : v = noS := by
      refine size0 ?_
      simp only [longB, Bool.and_eq_true, decide_eq_true_eq] at hb; exact hb.1.1.1
    subst hv
    rw [e, digits1]
    show (if some (UInt8.ofNat (255 % 256)) = some 255 then longR k (([] ++ digits m 2 ++ digits q 2) ++ r) else _) = _
    rw [if_pos (show some (UInt8.ofNat (255 % 256)) = some (255 : UInt8) from rfl)]
    unfold longR
    rw [List.nil_append, List.append_assoc, numR_put _ _ (by omega), Option.bind_some]
    try dsimp only
    rw [numR_put _ _ (by omega), Option.bind_some]
    try dsimp only
    rw [hk, hb]; rfl
theorem cellR_got {l r : List UInt8} {c : Ce} (h : cellR l = some (c, r)) : cellB c = true ∧ l = cellL c ++ r := by
  unfold cellR at h
  obtain ⟨⟨k, t⟩, hk, h5⟩ := Option.bind_eq_some_iff.1 h
  clear h
  have h := h5
  clear h5
  obtain ⟨hk1, hk2⟩ := textR_got hk
  rw [hk2]
  clear hk hk2
  try dsimp only at h
  split at h
  · rename_i hh
    unfold longR at h
    obtain ⟨⟨f, t2⟩, hf, h⟩ := Option.bind_eq_some_iff.1 h
    obtain ⟨⟨o, t3⟩, ho, h⟩ := Option.bind_eq_some_iff.1 h
    obtain ⟨hf1, hf2⟩ := numR_got hf
    obtain ⟨ho1, ho2⟩ := numR_got ho
    try dsimp only at h ho2
    split at h
    · rename_i hb
      injection h with h
      injection h with h1 h2
      simp only [Bool.and_eq_true] at hb
      subst h1 h2
      refine ⟨by unfold cellB; rw [hb.1, hb.2]; simp, ?_⟩
      cases t with
      | nil => cases hh
      | cons x t =>
        have hx : x = 255 := Option.some.inj hh
        subst hx
        rw [List.tail_cons] at hf2
        unfold cellL valL
        rw [if_pos hb.2, hf2, ho2]
        simp [digits1]
    · cases h
  · unfold shortR at h
    obtain ⟨⟨v, t2⟩, hv, h⟩ := Option.bind_eq_some_iff.1 h
    obtain ⟨hv1, hv2⟩ := textR_got hv
    try dsimp only at h
    split at h
    · rename_i hb
      injection h with h
      injection h with h1 h2
      simp only [Bool.and_eq_true] at hb
      subst h1 h2
      refine ⟨by unfold cellB; rw [hb.1, hb.2]; simp, ?_⟩
      have hl : longB ⟨k, v, 0, 0⟩ = false := by simp [longB, pageB]
      unfold cellL valL
      rw [hl, hv2]; simp
    · cases h
theorem cellsR_put (cs : List Ce) (r : List UInt8) : ∀ last, (∀ c ∈ cs, cellB c = true) → riseF (last :: cs.map Ce.key) = true → cellsR last cs.length (cs.flatMap cellL ++ r) = some (cs, r) := by
  induction cs with
  | nil => intro last _ _; rfl
  | cons c cs ih =>
    intro last h1 h2
    rw [List.map_cons, riseF, Bool.and_eq_true] at h2
    rw [List.length_cons, cellsR, List.flatMap_cons, List.append_assoc, cellR_put _ _ (h1 c (List.mem_cons_self ..)), Option.bind_some]
    try dsimp only
    rw [if_pos h2.1, ih _ (fun x hx => h1 x (List.mem_cons_of_mem _ hx)) h2.2]; rfl
theorem cellsR_got (n : Nat) : ∀ (last : ByteArray) (l r : List UInt8) (cs : List Ce), cellsR last n l = some (cs, r) → cs.length = n ∧ (∀ c ∈ cs, cellB c = true) ∧ riseF (last :: cs.map Ce.key) = true ∧ l = cs.flatMap cellL ++ r := by
  induction n with
  | zero => intro last l r cs h; injection h with h; injection h with h1 h2; subst h1 h2; exact ⟨rfl, by simp, rfl, by simp⟩
  | succ n ih =>
    intro last l r cs h
    rw [cellsR] at h
    obtain ⟨⟨c, t⟩, hc, h⟩ := Option.bind_eq_some_iff.1 h
    try dsimp only at h
    split at h
    · rename_i hlt
      obtain ⟨⟨cs', t2⟩, hcs, h⟩ := Option.bind_eq_some_iff.1 h
      injection h with h
      injection h with h1 h2
      obtain ⟨i1, i2, i3, i4⟩ := ih _ _ _ _ hcs
      obtain ⟨c1, c2⟩ := cellR_got hc
      try dsimp only at h1 h2
      subst h1 h2
      refine ⟨by rw [List.length_cons, i1], ?_, ?_, ?_⟩
      · intro x hx
        rcases List.mem_cons.1 hx with rfl | hx
        · exact c1
        · exact i2 x hx
      · rw [List.map_cons, riseF, hlt, i3]; rfl
      · rw [c2, i4, List.flatMap_cons, List.append_assoc]
    · cases h
theorem kidR_put (n : Nat) (r : List UInt8) (h : pageB n = true) : kidR (digits n 2 ++ r) = some ((n : Int), r) := by
  obtain ⟨m, e, _, hm⟩ := pageB_parts h
  have : n = m := Int.ofNat.inj e
  unfold kidR
  rw [numR_put _ _ (by omega), Option.bind_some]
  try dsimp only
  rw [h]; rfl
theorem kidR_got {l r : List UInt8} {i : Int} (h : kidR l = some (i, r)) : pageB i = true ∧ l = digits i.toNat 2 ++ r := by
  unfold kidR at h
  obtain ⟨⟨n, t⟩, hn, h⟩ := Option.bind_eq_some_iff.1 h
  obtain ⟨h1, h2⟩ := numR_got hn
  try dsimp only at h
  split at h
  · rename_i hp
    injection h with h
    injection h with h3 h4
    subst h3 h4
    exact ⟨hp, h2⟩
  · cases h
theorem keyR_put (k : ByteArray) (r : List UInt8) (h : keyB k = true) : keyR (textL k ++ r) = some (k, r) := by
  have hs : k.size ≤ 255 := by simp only [keyB, Bool.and_eq_true, decide_eq_true_eq] at h; omega
  unfold keyR
  rw [textR_put _ _ hs, Option.bind_some]
  try dsimp only
  rw [h]; rfl
theorem keyR_got {l r : List UInt8} {k : ByteArray} (h : keyR l = some (k, r)) : keyB k = true ∧ l = textL k ++ r := by
  unfold keyR at h
  obtain ⟨⟨k', t⟩, hk, h⟩ := Option.bind_eq_some_iff.1 h
  try dsimp only at h
  split at h
  · rename_i hb
    injection h with h
    injection h with h1 h2
    subst h1 h2
    exact ⟨hb, (textR_got hk).2⟩
  · cases h
theorem keysR_put (ks : List ByteArray) : ∀ (is : List Int) (last : ByteArray) (r : List UInt8), is.length = ks.length → (∀ k ∈ ks, keyB k = true) → (∀ i ∈ is, pageB i = true) → riseF (last :: ks) = true →
    keysR last ks.length ((ks.zip is).flatMap pairL ++ r) = some ((ks, is), r) := by
  induction ks with
  | nil => intro is last r h _ _ _; have : is = [] := List.eq_nil_of_length_eq_zero h; subst this; rfl
  | cons k ks ih =>
    intro is last r h h1 h2 h3
    cases is with
    | nil => simp at h
    | cons i is =>
      rw [riseF, Bool.and_eq_true] at h3
      obtain ⟨m, rfl, hm1, hm2⟩ := pageB_parts (h2 i (List.mem_cons_self ..))
      rw [List.length_cons, keysR, List.zip_cons_cons, List.flatMap_cons, show pairL (k, (m : Int)) = textL k ++ digits m 2 from rfl, List.append_assoc, List.append_assoc, keyR_put _ _ (h1 k (List.mem_cons_self ..)), Option.bind_some]
      try dsimp only
      rw [if_pos h3.1, kidR_put _ _ (h2 _ (List.mem_cons_self ..)), Option.bind_some]
      try dsimp only
      rw [ih is k r (by simpa using h) (fun x hx => h1 x (List.mem_cons_of_mem _ hx)) (fun x hx => h2 x (List.mem_cons_of_mem _ hx)) h3.2]; rfl
theorem keysR_got (n : Nat) : ∀ (last : ByteArray) (l r : List UInt8) (ks : List ByteArray) (is : List Int), keysR last n l = some ((ks, is), r) →
    ks.length = n ∧ is.length = n ∧ (∀ k ∈ ks, keyB k = true) ∧ (∀ i ∈ is, pageB i = true) ∧ riseF (last :: ks) = true ∧ l = (ks.zip is).flatMap pairL ++ r := by
  induction n with
  | zero => intro last l r ks is h; injection h with h; injection h with h1 h2; injection h1 with h3 h4; subst h3 h4 h2; exact ⟨rfl, rfl, by simp, by simp, rfl, by simp⟩
  | succ n ih =>
    intro last l r ks is h
    rw [keysR] at h
    obtain ⟨⟨k, t⟩, hk, h⟩ := Option.bind_eq_some_iff.1 h
    try dsimp only at h
    split at h
    · rename_i hlt
      obtain ⟨⟨i, t2⟩, hi, h⟩ := Option.bind_eq_some_iff.1 h
      try dsimp only at h
      obtain ⟨⟨⟨ks', is'⟩, t3⟩, hx, h⟩ := Option.bind_eq_some_iff.1 h
      injection h with h
      injection h with h1 h2
      injection h1 with h3 h4
      obtain ⟨j1, j2, j3, j4, j5, j6⟩ := ih _ _ _ _ _ hx
      obtain ⟨k1, k2⟩ := keyR_got hk
      obtain ⟨i1, i2⟩ := kidR_got hi
      try dsimp only at h2 h3 h4
      subst h2 h3 h4
      refine ⟨by rw [List.length_cons, j1], by rw [List.length_cons, j2], ?_, ?_, ?_, ?_⟩
      · intro x hx
        rcases List.mem_cons.1 hx with rfl | hx
        · exact k1
        · exact j3 x hx
      · intro x hx
        rcases List.mem_cons.1 hx with rfl | hx
        · exact i1
        · exact j4 x hx
      · rw [riseF, hlt, j5]; rfl
      · rw [k2, i2, j6, List.zip_cons_cons, List.flatMap_cons, pairL]; simp only [List.append_assoc]
    · cases h
theorem lt_noS {k : ByteArray} (h : keyB k = true) : ltS noS k = true := by
  rw [ltS_iff]
  simp only [keyB, Bool.and_eq_true, decide_eq_true_eq] at h
  cases e : k.data.toList with
  | nil => have := size_list k; rw [e] at this; simp at this; omega
  | cons x r => exact List.nil_lt_cons _ _
theorem rise_noS {ks : List ByteArray} (h : riseF ks = true) (hk : ∀ k ∈ ks, keyB k = true) : riseF (noS :: ks) = true := by
  cases ks with
  | nil => rfl
  | cons k r => rw [riseF, lt_noS (hk k (List.mem_cons_self ..)), h]; rfl
theorem rise_tail {k : ByteArray} {ks : List ByteArray} (h : riseF (k :: ks) = true) : riseF ks = true := by
  cases ks with
  | nil => rfl
  | cons x r => rw [riseF, Bool.and_eq_true] at h; exact h.2
theorem getF_put (n : Nd) (hm : n.may = true) (hs : n.size ≤ 240) : getF n.bytes = some n := by
  have hlen := Nd.bytes_length n hm
  unfold getF
  rw [if_neg (by rw [hlen]; omega)]
  obtain ⟨lf, cs, ks, is⟩ := n
  cases lf with
  | true =>
    rw [may_L rfl] at hm
    obtain ⟨h1, h2, h3, h4, h5⟩ := mayL_parts hm
    have h6 := len_cells h4
    have e : (⟨true, cs, ks, is⟩ : Nd).size = 2 + sumF cellSz cs := rfl
    rw [e] at hs
    try dsimp only at h1 h2 h3 h4 h5 h6
    have hks : ks = [] := List.eq_nil_of_length_eq_zero h2
    have his : is = [] := List.eq_nil_of_length_eq_zero h3
    subst hks his
    have e2 : (⟨true, cs, [], []⟩ : Nd).bytes = 1 :: UInt8.ofNat cs.length :: cs.flatMap cellL := by
      show digits 1 1 ++ digits (cs.length % 256) 1 ++ cs.flatMap cellL = _
      rw [digits1, digits1, Nat.mod_mod, Nat.mod_eq_of_lt (show cs.length < 256 by omega)]; rfl
    rw [e2]
    have e3 : (UInt8.ofNat cs.length).toNat = cs.length := by simp; omega
    show (if (UInt8.ofNat cs.length).toNat = 0 then none else if (1 : UInt8).toNat = 1 then endR (leafR (UInt8.ofNat cs.length).toNat (cs.flatMap cellL)) else _) = _
    rw [e3, if_neg (by omega), if_pos (show (1 : UInt8).toNat = 1 from rfl)]
    unfold leafR
    have := cellsR_put cs [] noS h4 (rise_noS h5 (fun k hk => by
      obtain ⟨c, hc, rfl⟩ := List.mem_map.1 hk
      have := h4 c hc
      unfold cellB at this; simp only [Bool.and_eq_true] at this; exact this.1))
    rw [List.append_nil] at this
    rw [this]; rfl
  | false =>
    rw [may_I rfl] at hm
    obtain ⟨h1, h2, h3, h4, h5, h6⟩ := mayI_parts hm
    have h7 := len_keys h4
    have e : (⟨false, cs, ks, is⟩ : Nd).size = 4 + sumF keySz ks := rfl
    rw [e] at hs
    try dsimp only at h1 h2 h3 h4 h5 h6 h7
    have hcs : cs = [] := List.eq_nil_of_length_eq_zero h1
    subst hcs
    cases is with
    | nil => simp at h3
    | cons i is =>
      obtain ⟨m, rfl, hm1, hm2⟩ := pageB_parts (h6 i (List.mem_cons_self ..))
      have e2 : (⟨false, [], ks, (m : Int) :: is⟩ : Nd).bytes = 2 :: UInt8.ofNat ks.length :: (digits m 2 ++ (ks.zip is).flatMap pairL) := by
        show digits 2 1 ++ digits (ks.length % 256) 1 ++ digits m 2 ++ (ks.zip is).flatMap pairL = _
        rw [digits1, digits1, Nat.mod_mod, Nat.mod_eq_of_lt (show ks.length < 256 by omega)]; simp only [List.append_assoc]; rfl
      rw [e2]
      have e3 : (UInt8.ofNat ks.length).toNat = ks.length := by simp; omega
      show (if (UInt8.ofNat ks.length).toNat = 0 then none else if (2 : UInt8).toNat = 1 then _ else if (2 : UInt8).toNat = 2 then endR (innerR (UInt8.ofNat ks.length).toNat (digits m 2 ++ (ks.zip is).flatMap pairL)) else none) = _
      rw [e3, if_neg (by omega), if_neg (by decide), if_pos (show (2 : UInt8).toNat = 2 from rfl)]
      unfold innerR
      rw [kidR_put _ _ (h6 _ (List.mem_cons_self ..)), Option.bind_some]
      try dsimp only
      have := keysR_put ks is noS [] (by simpa using h3) h4 (fun x hx => h6 x (List.mem_cons_of_mem _ hx)) (rise_noS h5 h4)
      rw [List.append_nil] at this
      rw [this]; rfl
theorem getF_got {l : List UInt8} {n : Nd} (h : getF l = some n) : n.may = true ∧ n.bytes = l ∧ l.length ≤ 240 := by
  unfold getF at h
  split at h
  · cases h
  · rename_i hlen
    refine (fun (k : n.may = true ∧ n.bytes = l) => ⟨k.1, k.2, by omega⟩) ?_
    match l, h with
    | m :: c :: r, h =>
      try dsimp only at h
      split at h
      · cases h
      · rename_i hc
        have hcb := c.toNat_lt
        split at h
        · rename_i hm
          have hm1 : m = 1 := UInt8.toNat_inj.1 hm
          subst hm1
          unfold endR at h
          obtain ⟨⟨n', t⟩, hl, h⟩ := Option.bind_eq_some_iff.1 h
          unfold leafR at hl
          obtain ⟨⟨cs, t2⟩, hcs, hl⟩ := Option.bind_eq_some_iff.1 hl
          injection hl with hl
          injection hl with hl1 hl2
          try dsimp only at h hl1 hl2
          split at h
          · rename_i ht
            have ht : t = [] := List.eq_nil_of_length_eq_zero ht
            injection h with h
            subst ht hl2 hl1 h
            obtain ⟨i1, i2, i3, i4⟩ := cellsR_got _ _ _ _ _ hcs
            rw [List.append_nil] at i4
            refine ⟨?_, ?_⟩
            · rw [may_L rfl]
              unfold mayL
              simp only [Bool.and_eq_true, decide_eq_true_eq, List.all_eq_true]
              exact ⟨⟨⟨⟨by show 0 < cs.length; omega, rfl⟩, rfl⟩, i2⟩, rise_tail i3⟩
            · show digits 1 1 ++ digits (cs.length % 256) 1 ++ cs.flatMap cellL = _
              rw [digits1, digits1, Nat.mod_mod, i1, Nat.mod_eq_of_lt hcb, UInt8.ofNat_toNat, ← i4]; rfl
          · cases h
        · split at h
          · rename_i hm
            have hm1 : m = 2 := UInt8.toNat_inj.1 hm
            subst hm1
            unfold endR at h
            obtain ⟨⟨n', t⟩, hl, h⟩ := Option.bind_eq_some_iff.1 h
            unfold innerR at hl
            obtain ⟨⟨i, t2⟩, hi, hl⟩ := Option.bind_eq_some_iff.1 hl
            try dsimp only at hl
            obtain ⟨⟨⟨ks, is⟩, t3⟩, hks, hl⟩ := Option.bind_eq_some_iff.1 hl
            injection hl with hl
            injection hl with hl1 hl2
            try dsimp only at h hl1 hl2
            split at h
            · rename_i ht
              have ht : t = [] := List.eq_nil_of_length_eq_zero ht
              injection h with h
              subst ht hl2 hl1 h
              obtain ⟨i1, i2, i3, i4, i5, i6⟩ := keysR_got _ _ _ _ _ _ hks
              obtain ⟨j1, j2⟩ := kidR_got hi
              rw [List.append_nil] at i6
              refine ⟨?_, ?_⟩
              · rw [may_I rfl]
                unfold mayI
                simp only [Bool.and_eq_true, decide_eq_true_eq, List.all_eq_true]
                refine ⟨⟨⟨⟨⟨rfl, by show 0 < ks.length; omega⟩, by show (i :: is).length = ks.length + 1; rw [List.length_cons]; omega⟩, i3⟩, rise_tail i5⟩, ?_⟩
                intro x hx
                rcases List.mem_cons.1 hx with rfl | hx
                · exact j1
                · exact i4 x hx
              · show digits 2 1 ++ digits (ks.length % 256) 1 ++ digits i.toNat 2 ++ (ks.zip is).flatMap pairL = _
                rw [digits1, digits1, Nat.mod_mod, i1, Nat.mod_eq_of_lt hcb, UInt8.ofNat_toNat, j2, i6]; simp
            · cases h
          · cases h
    | [_], h => cases h
    | [], h => cases h
end Go.Proofs.YthhimhjegodklaaGreat.N11

