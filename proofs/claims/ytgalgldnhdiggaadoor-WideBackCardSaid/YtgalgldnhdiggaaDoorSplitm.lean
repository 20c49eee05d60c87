/- Long division: what its loop keeps; parts of a row. -/
import Derived.Test.YtgalgldnhdiggaaDoorTakeout
namespace Ow
set_option linter.unusedVariables false
/-- The digits l at the place i of L. -/
def put (L : List Nat) (i : Nat) (l : List Nat) : List Nat := L.take i ++ (l ++ L.drop (i + l.length))
theorem put_len {L l : List Nat} {i : Nat} (h : i + l.length ≤ L.length) : (put L i l).length = L.length := by simp [put]; omega
theorem put_at {L l : List Nat} {i : Nat} (h : i + l.length ≤ L.length) (j : Nat) : (put L i l)[j]?.getD 0 = if i ≤ j ∧ j < i + l.length then l[j - i]?.getD 0 else L[j]?.getD 0 := by
  unfold put
  have ht : (L.take i).length = i := by rw [List.length_take]; omega
  by_cases h1 : j < i
  · rw [if_neg (by omega), List.getElem?_append_left (by omega), List.getElem?_take_of_lt h1]
  · rw [List.getElem?_append_right (by omega), ht]
    by_cases h2 : j - i < l.length
    · rw [if_pos (by omega), List.getElem?_append_left h2]
    · rw [if_neg (by omega), List.getElem?_append_right (by omega), List.getElem?_drop]
      congr 2; omega
theorem val_append : ∀ l m : List Nat, val (l ++ m) = val l + 4294967296 ^ l.length * val m
  | [], m => by simp [val]
  | d :: l, m => by
    simp only [List.cons_append, val, List.length_cons]
    rw [val_append l m, Nat.mul_add, Nat.pow_succ, Nat.mul_comm (4294967296 ^ l.length) 4294967296, Nat.mul_assoc]
    omega
theorem put_val {L l : List Nat} {i : Nat} (h : i + l.length ≤ L.length) : val (put L i l) = val (L.take i) + 4294967296 ^ i * (val l + 4294967296 ^ l.length * val (L.drop (i + l.length))) := by
  unfold put
  rw [val_append, val_append, show (L.take i).length = i by rw [List.length_take]; omega]
theorem part_val {L : List Nat} {i k : Nat} (h : i + k ≤ L.length) : val L = val (L.take i) + 4294967296 ^ i * (val ((L.drop i).take k) + 4294967296 ^ k * val (L.drop (i + k))) := by
  rw [val_split i L (by omega), val_split k (L.drop i) (by rw [List.length_drop]; omega), List.drop_drop]
theorem put_drop {L l : List Nat} {i : Nat} (h : i + l.length ≤ L.length) : (put L i l).drop i = l ++ L.drop (i + l.length) := by
  unfold put
  rw [List.drop_append, show (L.take i).length = i by rw [List.length_take]; omega, List.drop_of_length_le (by rw [List.length_take]; omega), Nat.sub_self]
  rfl
theorem dg_drop {l : List Nat} (h : Dg l) (k : Nat) : Dg (l.drop k) := fun x hx => h x (List.mem_of_mem_drop hx)
theorem dg_put {L l : List Nat} {i : Nat} (h : Dg L) (h2 : Dg l) : Dg (put L i l) := fun x hx => by
  unfold put at hx
  rcases List.mem_append.1 hx with hx | hx
  · exact dg_take h _ x hx
  · rcases List.mem_append.1 hx with hx | hx
    · exact h2 x hx
    · exact dg_drop h _ x hx

/-- What is left, L, and the digits of the quotient from i on, Q: of A by D, that has n digits. -/
def DivI (A D n : Nat) (L : List Nat) (i : Nat) (Q : List Nat) : Prop := Dg L ∧ Dg Q ∧ L.length = n + i + Q.length ∧ val L + D * (4294967296 ^ i * val Q) = A ∧ val (L.drop i) < D
/-- The digits above those that are divided are zero. -/
theorem DivI.high {A D n : Nat} {L Q : List Nat} {i : Nat} (h : DivI A D n L i Q) (hD : D < 4294967296 ^ n) (hQ : 1 ≤ Q.length ∨ True) : val (L.drop (i + n)) = 0 := by
  obtain ⟨h1, h2, h3, h4, h5⟩ := h
  have hs := val_split n (L.drop i) (by rw [List.length_drop]; omega)
  rw [List.drop_drop] at hs
  rcases Nat.eq_zero_or_pos (val (L.drop (i + n))) with h0 | h0
  · exact h0
  · exfalso
    have := Nat.mul_le_mul_left (4294967296 ^ n) h0
    omega
theorem DivI.part {A D n : Nat} {L Q : List Nat} {i : Nat} (h : DivI A D n L (i + 1) Q) (hD : D < 4294967296 ^ n) :
    val ((L.drop i).take (n + 1)) < D * 4294967296 ∧ ((L.drop i).take (n + 1)).length = n + 1 ∧ Dg ((L.drop i).take (n + 1)) := by
  have hh := h.high hD (.inr trivial)
  obtain ⟨h1, h2, h3, h4, h5⟩ := h
  have hs := val_split (n + 1) (L.drop i) (by rw [List.length_drop]; omega)
  rw [List.drop_drop, show i + (n + 1) = i + 1 + n by omega, hh, Nat.mul_zero, Nat.add_zero] at hs
  refine ⟨?_, by rw [List.length_take, List.length_drop]; omega, dg_take (dg_drop h1 _) _⟩
  rw [← hs, drop_at (by omega)]
  have := dg_at h1 i
  have : (val (L.drop (i + 1)) + 1) * 4294967296 ≤ D * 4294967296 := Nat.mul_le_mul_right _ h5
  omega
theorem DivI.step {A D n : Nat} {L Q : List Nat} {i : Nat} (h : DivI A D n L (i + 1) Q) (hD : D < 4294967296 ^ n) (hD0 : 0 < D) {l' : List Nat} (hl' : Dg l') (hlen : l'.length = n + 1) {x : Nat} (hx : x = val ((L.drop i).take (n + 1))) (hv : val l' = x % D) :
    x / D < 4294967296 ∧ DivI A D n (put L i l') i (x / D :: Q) := by
  have hp := h.part hD
  rw [← hx] at hp
  have hh := h.high hD (.inr trivial)
  obtain ⟨h1, h2, h3, h4, h5⟩ := h
  have hq : x / D < 4294967296 := by
    rw [Nat.div_lt_iff_lt_mul hD0, Nat.mul_comm]; exact hp.1
  have hle : i + l'.length ≤ L.length := by omega
  refine ⟨hq, dg_put h1 hl', fun y hy => ?_, by rw [put_len hle]; simp; omega, ?_, ?_⟩
  · rcases List.mem_cons.1 hy with rfl | hy
    · exact hq
    · exact h2 y hy
  · rw [put_val hle, hlen, show i + (n + 1) = i + 1 + n by omega, hh, hv, Nat.mul_zero, Nat.add_zero]
    have hs := part_val (L := L) (i := i) (k := n + 1) (by omega)
    rw [show i + (n + 1) = i + 1 + n by omega, hh, ← hx, Nat.mul_zero, Nat.add_zero] at hs
    have he := Nat.div_add_mod x D
    rw [← h4, hs]
    simp only [val]
    generalize x / D = q at *
    generalize x % D = r at *
    rw [← he, Nat.pow_succ]
    simp only [Nat.mul_add, Nat.mul_assoc, Nat.mul_left_comm D]
    omega
  · rw [put_drop hle, hlen, val_append, show i + (n + 1) = i + 1 + n by omega, hh, hv, Nat.mul_zero, Nat.add_zero]
    exact Nat.mod_lt _ hD0
theorem DivI.last {A D n : Nat} {L Q : List Nat} (h : DivI A D n L 0 Q) : val Q = A / D ∧ val L = A % D := by
  obtain ⟨h1, h2, h3, h4, h5⟩ := h
  rw [List.drop_zero] at h5
  rw [Nat.pow_zero, Nat.one_mul] at h4
  rw [← h4, Nat.add_comm, Nat.mul_add_div (by omega), Nat.div_eq_of_lt h5, Nat.mul_add_mod, Nat.mod_eq_of_lt h5]
  exact ⟨rfl, rfl⟩
end Ow
namespace Go.Proofs.YtgalgldnhdiggaaDoor
open Go.RowKit
set_option linter.unusedVariables false

theorem Lies.part {W : World} {g : Nat} {L : List Nat} (h : Lies W g 0 L) {i k : Nat} (hk : i + k ≤ L.length) : Lies W g i ((L.drop i).take k) := by
  obtain ⟨h1, ⟨cur, hc, hs⟩, h2⟩ := h
  have hl : ((L.drop i).take k).length = k := by rw [List.length_take, List.length_drop]; omega
  refine ⟨Ow.dg_take (Ow.dg_drop h1 _) _, ⟨cur, hc, by rw [hl]; omega⟩, fun j hj => ?_⟩
  rw [hl] at hj
  have := h2 (i + j) (by omega)
  rw [Nat.zero_add] at this
  rw [this, List.getElem?_take_of_lt hj, List.getElem?_drop]
/-- A part of a row is written anew. -/
theorem Lies.put {W W' : World} {g : Nat} {L l : List Nat} {i : Nat} (h : Lies W g 0 L) (hu : Upd g i l W W') (hd : Ow.Dg l) (hk : i + l.length ≤ L.length) : Lies W' g 0 (Ow.put L i l) := by
  obtain ⟨h1, ⟨cur, hc, hs⟩, h2⟩ := h
  have hu2 := hu
  obtain ⟨_, _, _, _, _, cur2, cur', r1, r2, r3, r4, r5⟩ := hu
  have e : cur2 = cur := by
    have := (show W.heap[g]? = _ from r1).symm.trans hc
    simp only [Option.some.injEq, Obj.cells.injEq] at this
    exact this.1
  subst e
  refine ⟨Ow.dg_put h1 hd, ⟨cur', r2, by rw [Ow.put_len hk]; omega⟩, fun j hj => ?_⟩
  rw [Ow.put_len hk] at hj
  rw [Nat.zero_add, r2.cell, r5, Ow.put_at hk]
  by_cases hj2 : i ≤ j ∧ j < i + l.length
  · rw [if_pos hj2, if_pos hj2]
  · rw [if_neg hj2, if_neg hj2, ← r1.cell, ← h2 j hj, Nat.zero_add]
theorem Lies.later {W W' : World} {g o : Nat} {l : List Nat} (h : Lies W g o l) (hg : Gr W W') : Lies W' g o l := by
  obtain ⟨h1, ⟨cur, hc, hs⟩, h2⟩ := h
  have hlt : g < W.heap.size := (Array.getElem?_eq_some_iff.1 (show W.heap[g]? = _ from hc)).1
  exact ⟨h1, ⟨cur, (hg.block g hlt).trans hc, hs⟩, fun j hj => hg.keeps (h2 j hj)⟩
/-- What trim returns lies in the same block. -/
theorem CutPost.block {v v' : Value} {l m : List Nat} {g : Nat} (h : ∀ W, HasD W v l → HasD W v' m) {W : World} (hW : HasD W v l) (hv : v.ownBlock = some g) (hm : 0 < m.length) : v'.ownBlock = some g := by
  apply Classical.byContradiction; intro hn
  obtain ⟨-, a, cap, rfl, h1, h2, h3⟩ := id (h W hW)
  obtain ⟨b, o, rfl, hc⟩ := h3 0 hm
  have hb : b ≠ g := fun e => hn (by rw [e]; rfl)
  have hW' : HasD (W.setCell ⟨b, o + 0, none⟩ (.bool false)) v l := hW.set (fun g' e => by rw [hv] at e; cases e; exact fun e => hb e.symm) _
  obtain ⟨-, a2, cap2, e2, -, -, h4⟩ := h _ hW'
  obtain ⟨b2, o2, e3, hc2⟩ := h4 0 hm
  rw [e3] at e2
  cases e2
  rw [World.cell?_setCell_same' W _ _ (by rw [hc]; rfl)] at hc2
  cases hc2
theorem Lies.frozen {W : World} {g o : Nat} {l : List Nat} (h : Lies W g o l) (j : Nat) : W.frozen? ⟨g, j, none⟩ = false := by
  obtain ⟨h1, ⟨cur, hc, hs⟩, h2⟩ := h
  exact hc.frozen j
/-- A digit is stored below those that are there. -/
theorem Lies.below {W : World} {g k d : Nat} {Q : List Nat} (h : Lies W g 0 (List.replicate (k + 1) 0 ++ Q)) (hd : d < 4294967296) : Lies (W.setCell ⟨g, k, none⟩ (.int .u32 (d : Nat))) g 0 (List.replicate k 0 ++ d :: Q) := by
  obtain ⟨h1, ⟨cur, hc, hs⟩, h2⟩ := h
  have hl : (List.replicate (k + 1) 0 ++ Q).length = k + 1 + Q.length := by simp
  refine ⟨fun x hx => ?_, ⟨_, hc.set k _, by simp at hs ⊢; omega⟩, fun j hj => ?_⟩
  · rcases List.mem_append.1 hx with hx | hx
    · rw [List.mem_replicate] at hx; omega
    · rcases List.mem_cons.1 hx with rfl | hx
      · exact hd
      · exact h1 x (List.mem_append_right _ hx)
  · have hj' : j < k + 1 + Q.length := by simp at hj; omega
    rw [hl] at hs h2
    by_cases e : j = k
    · subst e
      rw [Nat.zero_add, World.cell?_setCell_same' W _ _ (by have := h2 j (by omega); rw [Nat.zero_add] at this; rw [this]; rfl)]
      rw [List.getElem?_append_right (by simp)]
      simp
    · rw [World.cell?_setCell_other W _ _ _ (by simp <;> omega), h2 j hj']
      by_cases hjk : j < k
      · rw [List.getElem?_append_left (by simp <;> omega), List.getElem?_append_left (by simp <;> omega)]
        simp [hjk, show j < k + 1 by omega]
      · rw [List.getElem?_append_right (by simp <;> omega), List.getElem?_append_right (by simp <;> omega)]
        simp only [List.length_replicate]
        rw [show j - k = (j - (k + 1)) + 1 by omega, List.getElem?_cons_succ]
theorem Lies.set_other {W : World} {g o : Nat} {l : List Nat} (h : Lies W g o l) {p : Addr} (hp : p.block ≠ g) (u : Value) : Lies (W.setCell p u) g o l := by
  obtain ⟨h1, ⟨cur, hc, hs⟩, h2⟩ := h
  refine ⟨h1, ⟨cur, (Below.heap_setCell _ _ _ _ (Ne.symm hp)).trans hc, hs⟩, fun j hj => ?_⟩
  rw [World.cell?_setCell_other W _ _ _ (fun e => hp (by rw [e]))]
  exact h2 j hj
theorem Lies.upd_other {W W' : World} {g o g2 o2 : Nat} {l l2 : List Nat} (h : Lies W g o l) (hu : Upd g2 o2 l2 W W') (hp : g ≠ g2) : Lies W' g o l := by
  obtain ⟨h1, ⟨cur, hc, hs⟩, h2⟩ := h
  exact ⟨h1, ⟨cur, (hu.block g hp).trans hc, hs⟩, fun j hj => (hu.cell_other (p := ⟨g, o + j, none⟩) hp).trans (h2 j hj)⟩
theorem Lies.zeros {W : World} {g n : Nat} (h : Rw W g (zrow n)) : Lies W g 0 (List.replicate n 0) := by
  refine ⟨fun x hx => by rw [List.mem_replicate] at hx; omega, ⟨_, h, by rw [zrow_size]; simp⟩, fun j hj => ?_⟩
  have hj' : j < n := by simpa using hj
  rw [Nat.zero_add, h.cell, zrow_at _ _ hj']
  simp [hj']
end Go.Proofs.YtgalgldnhdiggaaDoor
