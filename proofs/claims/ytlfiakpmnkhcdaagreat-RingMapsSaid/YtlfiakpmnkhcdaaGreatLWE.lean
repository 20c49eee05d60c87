import Derived.Test.YtlfiakpmnkhcdaaGreatLWD
import Derived.Test.YtlfiakpmnkhcdaaGreatLWB
/- takeOut: a digit of a quotient. -/
namespace Ow
set_option linter.unusedVariables false
/-- What the loop keeps: digits L, after G times the divisor was taken, and T is missing at the top. -/
def OutI (R D Bn : Nat) (V G T : Nat) : Prop := T ≤ 1 ∧ V < Bn ∧ V + G * D = R + T * Bn ∧ R / D ≤ G
theorem OutI.first {R D Bn V G T : Nat} (hV : V < Bn) (hR : R < Bn) (h : R + T * Bn = V + G * D) (hG : R / D ≤ G) (hGD : G * D < Bn) : OutI R D Bn V G T := by
  refine ⟨?_, hV, h.symm, hG⟩
  apply Classical.byContradiction; intro hn
  have : 2 * Bn ≤ T * Bn := Nat.mul_le_mul_right _ (by omega)
  omega
theorem OutI.step {R D Bn V G V' c : Nat} (h : OutI R D Bn V G 1) (hD : 0 < D) (hV' : V' < Bn) (hc : c ≤ 1) (e : V' + c * Bn = V + D) : 1 ≤ G ∧ OutI R D Bn V' (G - 1) (1 - c) := by
  obtain ⟨h1, h2, h3, h4⟩ := h
  have hlt : R / D < G := by
    rw [Nat.div_lt_iff_lt_mul hD]; omega
  have hq : R / D ≤ G - 1 := Nat.le_sub_one_of_lt hlt
  have hG : 1 ≤ G := Nat.lt_of_le_of_lt (Nat.zero_le _) hlt
  clear hlt h4
  have h5 : (G - 1) * D + D = G * D := by rw [← Nat.succ_mul]; congr 1; omega
  refine ⟨hG, by omega, hV', ?_, hq⟩
  clear hq
  rcases (show c = 0 ∨ c = 1 by omega) with rfl | rfl
  · simp only [Nat.sub_zero, Nat.one_mul, Nat.zero_mul] at *; omega
  · simp only [Nat.sub_self, Nat.one_mul, Nat.zero_mul] at *; omega
theorem OutI.last {R D Bn V G : Nat} (h : OutI R D Bn V G 0) (hD : 0 < D) : G = R / D ∧ V = R % D := by
  obtain ⟨h1, h2, h3, h4⟩ := h
  have h5 : G ≤ R / D := by rw [Nat.le_div_iff_mul_le hD]; omega
  have h6 : G = R / D := by omega
  refine ⟨h6, ?_⟩
  have := Nat.div_add_mod R D
  rw [← h6, Nat.mul_comm] at this
  omega
end Ow
namespace Go.Proofs.YtlfiakpmnkhcdaaGreat
open Go.RowKit
set_option linter.unusedVariables false

theorem Upd.trans {W W1 W2 : World} {g o : Nat} {l l' : List Nat} (h : Upd g o l W W1) (k : Upd g o l' W1 W2) (hl : l'.length = l.length) : Upd g o l' W W2 := by
  obtain ⟨h1, h2, h3, h4, h5, cur, cur', r1, r2, r3, r4, r5⟩ := h
  obtain ⟨k1, k2, k3, k4, k5, cur2, cur2', s1, s2, s3, s4, s5⟩ := k
  have e : cur2 = cur' := by
    have := (show W1.heap[g]? = _ from s1).symm.trans r2
    simp only [Option.some.injEq, Obj.cells.injEq] at this
    exact this.1
  subst e
  refine ⟨k1.trans h1, k2.trans h2, k3.trans h3, k4.trans h4, fun j hj => (k5 j hj).trans (h5 j hj), cur, cur2', r1, s2, by omega, by omega, fun j => ?_⟩
  rw [s5, r5, hl]
  by_cases hj : o ≤ j ∧ j < o + l.length
  · rw [if_pos hj, if_pos hj]
  · rw [if_neg hj, if_neg hj, if_neg hj]
theorem Lies.drew {W : World} {g o : Nat} {l : List Nat} (h : Lies W g o l) : Lies W.drew g o l := h

end Go.Proofs.YtlfiakpmnkhcdaaGreat
/- Long division: what its loop keeps; parts of a row. -/
namespace Ow
set_option linter.unusedVariables false
/-- The digits l at the place i of L. -/
def put (L : List Nat) (i : Nat) (l : List Nat) : List Nat := L.take i ++ (l ++ L.drop (i + l.length))
theorem put_len {L l : List Nat} {i : Nat} (h : i + l.length ≤ L.length) : (put L i l).length = L.length := by simp [put]; omega
theorem put_at {L l : List Nat} {i : Nat} (h : i + l.length ≤ L.length) (j : Nat) : (put L i l)[j]?.getD 0 = if i ≤ j ∧ j < i + l.length then l[j - i]?.getD 0 else L[j]?.getD 0 := by
  unfold put
  have ht : (L.take i).length = i := by rw [List.length_take]; omega
  by_cases h1 : j < i
  · rw [if_neg (by omega), List.getElem?_append_left (by omega), List.getElem?_take_of_lt h1]
  · rw [List.getElem?_append_right (by omega), ht]
    by_cases h2 : j - i < l.length
    · rw [if_pos (by omega), List.getElem?_append_left h2]
    · rw [if_neg (by omega), List.getElem?_append_right (by omega), List.getElem?_drop]
      congr 2; omega
theorem val_append : ∀ l m : List Nat, val (l ++ m) = val l + 4294967296 ^ l.length * val m
  | [], m => by simp [val]
  | d :: l, m => by
    simp only [List.cons_append, val, List.length_cons]
    rw [val_append l m, Nat.mul_add, Nat.pow_succ, Nat.mul_comm (4294967296 ^ l.length) 4294967296, Nat.mul_assoc]
    omega
theorem put_val {L l : List Nat} {i : Nat} (h : i + l.length ≤ L.length) : val (put L i l) = val (L.take i) + 4294967296 ^ i * (val l + 4294967296 ^ l.length * val (L.drop (i + l.length))) := by
  unfold put
  rw [val_append, val_append, show (L.take i).length = i by rw [List.length_take]; omega]
theorem part_val {L : List Nat} {i k : Nat} (h : i + k ≤ L.length) : val L = val (L.take i) + 4294967296 ^ i * (val ((L.drop i).take k) + 4294967296 ^ k * val (L.drop (i + k))) := by
  rw [val_split i L (by omega), val_split k (L.drop i) (by rw [List.length_drop]; omega), List.drop_drop]
theorem put_drop {L l : List Nat} {i : Nat} (h : i + l.length ≤ L.length) : (put L i l).drop i = l ++ L.drop (i + l.length) := by
  unfold put
  rw [List.drop_append, show (L.take i).length = i by rw [List.length_take]; omega, List.drop_of_length_le (by rw [List.length_take]; omega), Nat.sub_self]
  rfl
theorem dg_drop {l : List Nat} (h : Dg l) (k : Nat) : Dg (l.drop k) := fun x hx => h x (List.mem_of_mem_drop hx)
theorem dg_put {L l : List Nat} {i : Nat} (h : Dg L) (h2 : Dg l) : Dg (put L i l) := fun x hx => by
  unfold put at hx
  rcases List.mem_append.1 hx with hx | hx
  · exact dg_take h _ x hx
  · rcases List.mem_append.1 hx with hx | hx
    · exact h2 x hx
    · exact dg_drop h _ x hx

/-- What is left, L, and the digits of the quotient from i on, Q: of A by D, that has n digits. -/
def DivI (A D n : Nat) (L : List Nat) (i : Nat) (Q : List Nat) : Prop := Dg L ∧ Dg Q ∧ L.length = n + i + Q.length ∧ val L + D * (4294967296 ^ i * val Q) = A ∧ val (L.drop i) < D
/-- The digits above those that are divided are zero. -/
theorem DivI.high {A D n : Nat} {L Q : List Nat} {i : Nat} (h : DivI A D n L i Q) (hD : D < 4294967296 ^ n) (hQ : 1 ≤ Q.length ∨ True) : val (L.drop (i + n)) = 0 := by
  obtain ⟨h1, h2, h3, h4, h5⟩ := h
  have hs := val_split n (L.drop i) (by rw [List.length_drop]; omega)
  rw [List.drop_drop] at hs
  rcases Nat.eq_zero_or_pos (val (L.drop (i + n))) with h0 | h0
  · exact h0
  · exfalso
    have := Nat.mul_le_mul_left (4294967296 ^ n) h0
    omega
theorem DivI.part {A D n : Nat} {L Q : List Nat} {i : Nat} (h : DivI A D n L (i + 1) Q) (hD : D < 4294967296 ^ n) :
    val ((L.drop i).take (n + 1)) < D * 4294967296 ∧ ((L.drop i).take (n + 1)).length = n + 1 ∧ Dg ((L.drop i).take (n + 1)) := by
  have hh := h.high hD (.inr trivial)
  obtain ⟨h1, h2, h3, h4, h5⟩ := h
  have hs := val_split (n + 1) (L.drop i) (by rw [List.length_drop]; omega)
  rw [List.drop_drop, show i + (n + 1) = i + 1 + n by omega, hh, Nat.mul_zero, Nat.add_zero] at hs
  refine ⟨?_, by rw [List.length_take, List.length_drop]; omega, dg_take (dg_drop h1 _) _⟩
  rw [← hs, drop_at (by omega)]
  have := dg_at h1 i
  have : (val (L.drop (i + 1)) + 1) * 4294967296 ≤ D * 4294967296 := Nat.mul_le_mul_right _ h5
  omega
theorem DivI.step {A D n : Nat} {L Q : List Nat} {i : Nat} (h : DivI A D n L (i + 1) Q) (hD : D < 4294967296 ^ n) (hD0 : 0 < D) {l' : List Nat} (hl' : Dg l') (hlen : l'.length = n + 1) {x : Nat} (hx : x = val ((L.drop i).take (n + 1))) (hv : val l' = x % D) :
    x / D < 4294967296 ∧ DivI A D n (put L i l') i (x / D :: Q) := by
  have hp := h.part hD
  rw [← hx] at hp
  have hh := h.high hD (.inr trivial)
  obtain ⟨h1, h2, h3, h4, h5⟩ := h
  have hq : x / D < 4294967296 := by
    rw [Nat.div_lt_iff_lt_mul hD0, Nat.mul_comm]; exact hp.1
  have hle : i + l'.length ≤ L.length := by omega
  refine ⟨hq, dg_put h1 hl', fun y hy => ?_, by rw [put_len hle]; simp; omega, ?_, ?_⟩
  · rcases List.mem_cons.1 hy with rfl | hy
    · exact hq
    · exact h2 y hy
  · rw [put_val hle, hlen, show i + (n + 1) = i + 1 + n by omega, hh, hv, Nat.mul_zero, Nat.add_zero]
    have hs := part_val (L := L) (i := i) (k := n + 1) (by omega)
    rw [show i + (n + 1) = i + 1 + n by omega, hh, ← hx, Nat.mul_zero, Nat.add_zero] at hs
    have he := Nat.div_add_mod x D
    rw [← h4, hs]
    simp only [val]
    generalize x / D = q at *
    generalize x % D = r at *
    rw [← he, Nat.pow_succ]
    simp only [Nat.mul_add, Nat.mul_assoc, Nat.mul_left_comm D]
    omega
  · rw [put_drop hle, hlen, val_append, show i + (n + 1) = i + 1 + n by omega, hh, hv, Nat.mul_zero, Nat.add_zero]
    exact Nat.mod_lt _ hD0
theorem DivI.last {A D n : Nat} {L Q : List Nat} (h : DivI A D n L 0 Q) : val Q = A / D ∧ val L = A % D := by
  obtain ⟨h1, h2, h3, h4, h5⟩ := h
  rw [List.drop_zero] at h5
  rw [Nat.pow_zero, Nat.one_mul] at h4
  rw [← h4, Nat.add_comm, Nat.mul_add_div (by omega), Nat.div_eq_of_lt h5, Nat.mul_add_mod, Nat.mod_eq_of_lt h5]
  exact ⟨rfl, rfl⟩
end Ow
namespace Go.Proofs.YtlfiakpmnkhcdaaGreat
open Go.RowKit
set_option linter.unusedVariables false

theorem Lies.part {W : World} {g : Nat} {L : List Nat} (h : Lies W g 0 L) {i k : Nat} (hk : i + k ≤ L.length) : Lies W g i ((L.drop i).take k) := by
  obtain ⟨h1, ⟨cur, hc, hs⟩, h2⟩ := h
  have hl : ((L.drop i).take k).length = k := by rw [List.length_take, List.length_drop]; omega
  refine ⟨Ow.dg_take (Ow.dg_drop h1 _) _, ⟨cur, hc, by rw [hl]; omega⟩, fun j hj => ?_⟩
  rw [hl] at hj
  have := h2 (i + j) (by omega)
  rw [Nat.zero_add] at this
  rw [this, List.getElem?_take_of_lt hj, List.getElem?_drop]
/-- A part of a row is written anew. -/
theorem Lies.put {W W' : World} {g : Nat} {L l : List Nat} {i : Nat} (h : Lies W g 0 L) (hu : Upd g i l W W') (hd : Ow.Dg l) (hk : i + l.length ≤ L.length) : Lies W' g 0 (Ow.put L i l) := by
  obtain ⟨h1, ⟨cur, hc, hs⟩, h2⟩ := h
  have hu2 := hu
  obtain ⟨_, _, _, _, _, cur2, cur', r1, r2, r3, r4, r5⟩ := hu
  have e : cur2 = cur := by
    have := (show W.heap[g]? = _ from r1).symm.trans hc
    simp only [Option.some.injEq, Obj.cells.injEq] at this
    exact this.1
  subst e
  refine ⟨Ow.dg_put h1 hd, ⟨cur', r2, by rw [Ow.put_len hk]; omega⟩, fun j hj => ?_⟩
  rw [Ow.put_len hk] at hj
  rw [Nat.zero_add, r2.cell, r5, Ow.put_at hk]
  by_cases hj2 : i ≤ j ∧ j < i + l.length
  · rw [if_pos hj2, if_pos hj2]
  · rw [if_neg hj2, if_neg hj2, ← r1.cell, ← h2 j hj, Nat.zero_add]
theorem Lies.later {W W' : World} {g o : Nat} {l : List Nat} (h : Lies W g o l) (hg : Gr W W') : Lies W' g o l := by
  obtain ⟨h1, ⟨cur, hc, hs⟩, h2⟩ := h
  have hlt : g < W.heap.size := (Array.getElem?_eq_some_iff.1 (show W.heap[g]? = _ from hc)).1
  exact ⟨h1, ⟨cur, (hg.block g hlt).trans hc, hs⟩, fun j hj => hg.keeps (h2 j hj)⟩
/-- What trim returns lies in the same block. -/
theorem CutPost.block {v v' : Value} {l m : List Nat} {g : Nat} (h : ∀ W, HasD W v l → HasD W v' m) {W : World} (hW : HasD W v l) (hv : v.ownBlock = some g) (hm : 0 < m.length) : v'.ownBlock = some g := by
  apply Classical.byContradiction; intro hn
  obtain ⟨-, a, cap, rfl, h1, h2, h3⟩ := id (h W hW)
  obtain ⟨b, o, rfl, hc⟩ := h3 0 hm
  have hb : b ≠ g := fun e => hn (by rw [e]; rfl)
  have hW' : HasD (W.setCell ⟨b, o + 0, none⟩ (.bool false)) v l := hW.set (fun g' e => by rw [hv] at e; cases e; exact fun e => hb e.symm) _
  obtain ⟨-, a2, cap2, e2, -, -, h4⟩ := h _ hW'
  obtain ⟨b2, o2, e3, hc2⟩ := h4 0 hm
  rw [e3] at e2
  cases e2
  rw [World.cell?_setCell_same' W _ _ (by rw [hc]; rfl)] at hc2
  cases hc2
theorem Lies.frozen {W : World} {g o : Nat} {l : List Nat} (h : Lies W g o l) (j : Nat) : W.frozen? ⟨g, j, none⟩ = false := by
  obtain ⟨h1, ⟨cur, hc, hs⟩, h2⟩ := h
  exact hc.frozen j
/-- A digit is stored below those that are there. -/
theorem Lies.below {W : World} {g k d : Nat} {Q : List Nat} (h : Lies W g 0 (List.replicate (k + 1) 0 ++ Q)) (hd : d < 4294967296) : Lies (W.setCell ⟨g, k, none⟩ (.int .u32 (d : Nat))) g 0 (List.replicate k 0 ++ d :: Q) := by
  obtain ⟨h1, ⟨cur, hc, hs⟩, h2⟩ := h
  have hl : (List.replicate (k + 1) 0 ++ Q).length = k + 1 + Q.length := by simp
  refine ⟨fun x hx => ?_, ⟨_, hc.set k _, by simp at hs ⊢; omega⟩, fun j hj => ?_⟩
  · rcases List.mem_append.1 hx with hx | hx
    · rw [List.mem_replicate] at hx; omega
    · rcases List.mem_cons.1 hx with rfl | hx
      · exact hd
      · exact h1 x (List.mem_append_right _ hx)
  · have hj' : j < k + 1 + Q.length := by simp at hj; omega
    rw [hl] at hs h2
    by_cases e : j = k
    · subst e
      rw [Nat.zero_add, World.cell?_setCell_same' W _ _ (by have := h2 j (by omega); rw [Nat.zero_add] at this; rw [this]; rfl)]
      rw [List.getElem?_append_right (by simp)]
      simp
    · rw [World.cell?_setCell_other W _ _ _ (by simp <;> omega), h2 j hj']
      by_cases hjk : j < k
      · rw [List.getElem?_append_left (by simp <;> omega), List.getElem?_append_left (by simp <;> omega)]
        simp [hjk, show j < k + 1 by omega]
      · rw [List.getElem?_append_right (by simp <;> omega), List.getElem?_append_right (by simp <;> omega)]
        simp only [List.length_replicate]
        rw [show j - k = (j - (k + 1)) + 1 by omega, List.getElem?_cons_succ]
theorem Lies.zeros {W : World} {g n : Nat} (h : Rw W g (zrow n)) : Lies W g 0 (List.replicate n 0) := by
  refine ⟨fun x hx => by rw [List.mem_replicate] at hx; omega, ⟨_, h, by rw [zrow_size]; simp⟩, fun j hj => ?_⟩
  have hj' : j < n := by simpa using hj
  rw [Nat.zero_add, h.cell, zrow_at _ _ hj']
  simp [hj']
end Go.Proofs.YtlfiakpmnkhcdaaGreat
/- Long division: the divisor moved up; what the loop starts from. -/
namespace Ow
set_option linter.unusedVariables false
theorem start_lt {P1 P2 P3 S X Y VL VM : Nat} (h4 : P1 * P2 = P3) (h1 : VL * S = Y + P1 * X) (h2 : VL < P3) (h3 : P2 ≤ VM) (hS : 0 < S) : X < VM * S := by
  have h5 : VL * S < P3 * S := Nat.mul_lt_mul_of_pos_right h2 hS
  have h6 : P2 * S ≤ VM * S := Nat.mul_le_mul_right _ h3
  have h7 : P1 * X < P1 * (P2 * S) := by
    rw [← Nat.mul_assoc, h4]; omega
  exact Nat.lt_of_lt_of_le (Nat.lt_of_mul_lt_mul_left h7) h6
theorem DivI.start {n a S : Nat} {L m l : List Nat} (hL : Dg L) (hlen : L.length = a + 1) (hl : Dg l) (hla : l.length = a) (hm : Nm m) (hn : m.length = n) (hn0 : 0 < n) (hle : n ≤ a) (hv : val L = val l * S) (hS : 0 < S) : DivI (val l * S) (val m * S) n L (a - n + 1) [] := by
  obtain ⟨i, hi⟩ : ∃ i, i = a - n + 1 := ⟨_, rfl⟩
  obtain ⟨j, hj⟩ : ∃ j, j = n - 1 := ⟨_, rfl⟩
  have hij : i + j = a := by omega
  rw [← hi]
  have h1 := val_split i L (by omega)
  have h2 := val_lt l hl
  have h3 := val_ge m hm.2 (fun e => by rw [e] at hn; exact absurd hn (by simp; omega))
  rw [hla] at h2
  rw [hn, ← hj] at h3
  rw [hv] at h1
  refine ⟨hL, dg_nil, by simp; omega, ?_, start_lt (by rw [← Nat.pow_add, hij]) h1 h2 h3 hS⟩
  show val L + val m * S * (4294967296 ^ i * 0) = _
  rw [Nat.mul_zero, Nat.mul_zero, Nat.add_zero, hv]
end Ow
/- split: long division. -/
namespace Go.Proofs.YtlfiakpmnkhcdaaGreat
open Go.RowKit
set_option linter.unusedVariables false

end Go.Proofs.YtlfiakpmnkhcdaaGreat
/- The bytes of a number, the highest first; forms and the integers that they stand for. -/
namespace Ow
set_option linter.unusedVariables false
/-- The bytes of a number, the highest first, without zeros in front. -/
def byt (n : Nat) : List UInt8 := if h : n = 0 then [] else byt (n / 256) ++ [UInt8.ofNat (n % 256)]
termination_by n
decreasing_by omega
theorem byt_zero : byt 0 = [] := by rw [byt]; simp
theorem byt_step {M b : Nat} (hb : b < 256) (h : 0 < 256 * M + b) : byt (256 * M + b) = byt M ++ [UInt8.ofNat b] := by
  rw [byt, dif_neg (by omega), show (256 * M + b) / 256 = M by omega, show (256 * M + b) % 256 = b by omega]
theorem mg_byt (n : Nat) : mg (byt n) = n := by
  induction n using Nat.strongRecOn with
  | ind n ih =>
    rw [byt]
    by_cases h : n = 0
    · rw [dif_pos h, h]; rfl
    · rw [dif_neg h, mg_snoc, ih _ (by omega)]
      have : (UInt8.ofNat (n % 256)).toNat = n % 256 := by
        rw [UInt8.toNat_ofNat']; omega
      rw [this]; omega
theorem byt_ne {n : Nat} (h : 0 < n) : byt n ≠ [] := by
  rw [byt, dif_neg (by omega)]; simp
theorem byt_head (n : Nat) : ∀ b l, byt n = b :: l → b ≠ 0 := by
  induction n using Nat.strongRecOn with
  | ind n ih =>
    intro b l h
    rw [byt] at h
    by_cases h0 : n = 0
    · rw [dif_pos h0] at h; cases h
    · rw [dif_neg h0] at h
      cases hb : byt (n / 256) with
      | nil =>
        rw [hb] at h
        have hz : n / 256 = 0 := by
          apply Classical.byContradiction; intro hz
          exact byt_ne (by omega) hb
        simp only [List.nil_append, List.cons.injEq] at h
        rw [← h.1]
        intro e
        have := congrArg UInt8.toNat e
        rw [UInt8.toNat_ofNat'] at this
        have h3 : (0 : UInt8).toNat = 0 := rfl
        rw [h3] at this
        omega
      | cons c t =>
        rw [hb] at h
        simp only [List.cons_append, List.cons.injEq] at h
        rw [← h.1]
        exact ih (n / 256) (by omega) c t hb
/-- What a list of bytes without zeros in front stands for determines it. -/
theorem byt_mg : ∀ (k : Nat) (l : List UInt8), l.length = k → (∀ b t, l = b :: t → b ≠ 0) → byt (mg l) = l
  | 0, l, hk, h => by
    have := List.length_eq_zero_iff.1 hk
    subst this; exact byt_zero
  | k + 1, l, hk, h => by
    rcases List.eq_nil_or_concat l with e | ⟨t, b, e⟩
    · subst e; simp at hk
    · rw [List.concat_eq_append] at e; rw [e] at hk h ⊢
      have hl : t.length = k := by simp at hk; omega
      have ht : ∀ c s, t = c :: s → c ≠ 0 := fun c s e2 => h c (s ++ [b]) (by rw [e2]; simp)
      have ih := byt_mg k t hl ht
      rw [mg_snoc, Nat.mul_comm, byt_step b.toNat_lt, ih, UInt8.ofNat_toNat]
      cases t with
      | nil =>
        have := h b [] (by simp)
        have h4 : b.toNat ≠ 0 := fun e3 => this (UInt8.toNat_inj.1 (by rw [e3]; rfl))
        omega
      | cons c s =>
        have := h c (s ++ [b]) (by simp)
        have h4 : 0 < mg (c :: s) := by
          apply Nat.pos_of_ne_zero
          intro e3
          rw [e3, byt_zero] at ih
          cases ih
        omega
theorem byt_lt (n : Nat) : n < 256 ^ (byt n).length := by
  have := mg_bound (byt n); rwa [mg_byt] at this
theorem byt_ge (n : Nat) (h : 0 < n) : 256 ^ ((byt n).length - 1) ≤ n := by
  induction n using Nat.strongRecOn with
  | ind n ih =>
    rw [byt, dif_neg (by omega), List.length_append, List.length_singleton, Nat.add_sub_cancel]
    rcases Nat.eq_zero_or_pos (n / 256) with h0 | h0
    · rw [h0, byt_zero]; simp; omega
    · have := ih (n / 256) (by omega) h0
      have hl : 0 < (byt (n / 256)).length := List.length_pos_iff.2 (byt_ne h0)
      obtain ⟨m, hm⟩ : ∃ m, (byt (n / 256)).length = m + 1 := ⟨_, (Nat.sub_add_cancel hl).symm⟩
      rw [hm] at this ⊢
      rw [Nat.add_sub_cancel] at this
      rw [Nat.pow_succ]
      omega
theorem byt_len {n k : Nat} : n < 256 ^ k ↔ (byt n).length ≤ k := by
  constructor
  · intro h
    rcases Nat.eq_zero_or_pos n with h0 | h0
    · rw [h0, byt_zero]; simp
    · have := byt_ge n h0
      have := (Nat.pow_lt_pow_iff_right (by omega : 1 < 256)).1 (Nat.lt_of_le_of_lt this h)
      omega
  · intro h
    exact Nat.lt_of_lt_of_le (byt_lt n) (Nat.pow_le_pow_right (by omega) h)
/-- A byte of a number. -/
theorem byt_at (n i : Nat) (h : i < (byt n).length) : (byt n)[(byt n).length - 1 - i]? = some (UInt8.ofNat (n / 256 ^ i % 256)) := by
  induction i generalizing n with
  | zero =>
    rcases Nat.eq_zero_or_pos n with h0 | h0
    · rw [h0, byt_zero] at h; simp at h
    · rw [byt, dif_neg (by omega)]; simp
  | succ i ih =>
    rcases Nat.eq_zero_or_pos n with h0 | h0
    · rw [h0, byt_zero] at h; simp at h
    · rw [byt, dif_neg (by omega)] at h ⊢
      rw [List.length_append, List.length_singleton] at h ⊢
      have := ih (n / 256) (by omega)
      rw [Nat.add_sub_cancel, List.getElem?_append_left (by omega), show (byt (n / 256)).length - (i + 1) = (byt (n / 256)).length - 1 - i by omega, this, Nat.div_div_eq_div_mul, Nat.pow_succ, Nat.mul_comm]
/-- The range of an integer's absolute value. -/
def R : Nat := 256 ^ 256
theorem R_eq : R = 256 ^ 256 := rfl
theorem R_digits : R = 4294967296 ^ 64 := by unfold R; rw [show (4294967296 : Nat) = 256 ^ 4 from rfl, ← Nat.pow_mul]
end Ow
namespace Go.Proofs.YtlfiakpmnkhcdaaGreat
open Go.RowKit
set_option linter.unusedVariables false

/-- The bytes of a number as a string. -/
def bstr (n : Nat) : ByteArray := ⟨(Ow.byt n).toArray⟩
theorem bstr_size (n : Nat) : (bstr n).size = (Ow.byt n).length := by simp [bstr, ByteArray.size]
theorem bstr_list (n : Nat) : (bstr n).data.toList = Ow.byt n := by simp [bstr]
/-- The integer of a form. -/
def zOf (neg : Bool) (s : ByteArray) : Int := sg neg (Ow.mg s.data.toList)
theorem zOf_abs (neg : Bool) (s : ByteArray) : (zOf neg s).natAbs = Ow.mg s.data.toList := sg_abs _ _
theorem list_len (s : ByteArray) : s.data.toList.length = s.size := by simp
theorem form_str {neg : Bool} {s : ByteArray} (h : Form neg s) : s = bstr (zOf neg s).natAbs := by
  rw [zOf_abs]
  have hb : Ow.byt (Ow.mg s.data.toList) = s.data.toList := by
    refine Ow.byt_mg _ _ rfl (fun b t e => ?_)
    rcases h with ⟨h0, _⟩ | ⟨h1, h2, h3, h4⟩
    · have := list_len s; rw [h0, e] at this; simp at this
    · intro hb
      apply h4
      have : s.data.toList[0]? = some s[0] := by
        rw [List.getElem?_eq_getElem (by rw [list_len]; exact h3)]; rfl
      rw [e] at this
      have e3 : b = s[0] := by simpa using this
      rw [← e3, hb]
  unfold bstr
  rw [hb]
theorem form_range {neg : Bool} {s : ByteArray} (h : Form neg s) : (zOf neg s).natAbs < Ow.R := by
  rw [zOf_abs, Ow.R_eq]
  refine Nat.lt_of_lt_of_le (Ow.mg_bound _) (Nat.pow_le_pow_right (by omega) ?_)
  rw [list_len]
  rcases h with ⟨h0, _⟩ | ⟨_, h2, _⟩ <;> omega
theorem form_pos {neg : Bool} {s : ByteArray} (h : Form neg s) (h1 : 1 ≤ s.size) : 256 ^ (s.size - 1) ≤ (zOf neg s).natAbs := by
  have e := form_str h
  have hp : 0 < (zOf neg s).natAbs := by
    apply Nat.pos_of_ne_zero; intro e0
    rw [e0] at e
    rw [e, bstr_size, Ow.byt_zero] at h1; simp at h1
  have := Ow.byt_ge _ hp
  rw [← bstr_size, ← e] at this
  exact this
theorem form_neg {neg : Bool} {s : ByteArray} (h : Form neg s) : neg = decide (zOf neg s < 0) := by
  unfold zOf
  rw [sg_neg]
  rcases h with ⟨h0, rfl⟩ | ⟨h1, h2, h3, h4⟩
  · rfl
  · have hp := form_pos (neg := neg) (.inr ⟨h1, h2, h3, h4⟩) h1
    rw [zOf_abs] at hp
    have : 0 < Ow.mg s.data.toList := Nat.lt_of_lt_of_le (Nat.pow_pos (by omega)) hp
    simp [this]
/-- A form is that of its integer. -/
theorem form_bstr (z : Int) (h : z.natAbs < Ow.R) : Form (decide (z < 0)) (bstr z.natAbs) := by
  have hl := (Ow.byt_len (n := z.natAbs) (k := 256)).1 (by rw [← Ow.R_eq]; exact h)
  rw [← bstr_size] at hl
  rcases Nat.eq_zero_or_pos (bstr z.natAbs).size with h0 | h0
  · refine .inl ⟨h0, ?_⟩
    have : z.natAbs = 0 := by
      apply Classical.byContradiction; intro hn
      rw [bstr_size] at h0
      exact Ow.byt_ne (n := z.natAbs) (by omega) (List.length_eq_zero_iff.1 h0)
    simp; omega
  · refine .inr ⟨h0, hl, h0, ?_⟩
    cases hb : Ow.byt z.natAbs with
    | nil => rw [bstr_size, hb] at h0; simp at h0
    | cons b t =>
      have h1 := Ow.byt_head _ b t hb
      have h2 : (bstr z.natAbs).data.toList[0]? = some ((bstr z.natAbs)[0]) := by
        rw [List.getElem?_eq_getElem (by rw [list_len]; exact h0)]; rfl
      rw [bstr_list, hb] at h2
      have e3 : b = (bstr z.natAbs)[0] := by simpa using h2
      rw [← e3]; exact h1
theorem zOf_bstr (z : Int) : zOf (decide (z < 0)) (bstr z.natAbs) = z := by
  unfold zOf; rw [bstr_list, Ow.mg_byt]; exact sg_self z

/-- What form answers: the sign, the bytes, the error. -/
def fNeg (z : Int) : Bool := decide (z < 0) && decide (z.natAbs < Ow.R)
def fStr (z : Int) : ByteArray := if z.natAbs < Ow.R then bstr z.natAbs else ⟨#[]⟩
def fErr (z : Int) : Int := if z.natAbs < Ow.R then 0 else 7
theorem fNeg_in {z : Int} (h : z.natAbs < Ow.R) : fNeg z = decide (z < 0) := by unfold fNeg; rw [decide_eq_true h, Bool.and_true]
theorem fStr_in {z : Int} (h : z.natAbs < Ow.R) : fStr z = bstr z.natAbs := if_pos h
theorem fErr_in {z : Int} (h : z.natAbs < Ow.R) : fErr z = 0 := if_pos h
theorem fNeg_out {z : Int} (h : ¬ z.natAbs < Ow.R) : fNeg z = false := by unfold fNeg; rw [decide_eq_false h, Bool.and_false]
theorem fStr_out {z : Int} (h : ¬ z.natAbs < Ow.R) : fStr z = ⟨#[]⟩ := if_neg h
theorem fErr_out {z : Int} (h : ¬ z.natAbs < Ow.R) : fErr z = 7 := if_neg h
/-- A form and an error number. -/
def Res (a : Bool) (s : ByteArray) (c : Int) (w : World) (e : Ending) (w' : World) : Prop := e = .returned (.tuple #[.agg #[.bool a, .string s], .int .i64 c]) ∧ Gr w w'

theorem integerOf_form (neg : Bool) (s : ByteArray) (w : World) (h : Form neg s) :
    Calls Tryz.prog 144 #[.agg #[.bool neg, .string s]] w (IntZ 64 (zOf neg s) w) := by
  have hs : s.size ≤ 256 := by rcases h with ⟨h0, _⟩ | ⟨_, h2, _⟩ <;> omega
  refine (integerOf_any neg s w (by omega)).mono ?_
  rintro e w' ⟨v, rfl, hd, hg⟩
  have hM := Ow.mg_bound s.data.toList
  rw [list_len] at hM
  have hlt : Ow.mg s.data.toList < 4294967296 ^ ((s.size + 3) / 4) := by
    rw [show (4294967296 : Nat) = 256 ^ 4 from rfl, ← Nat.pow_mul]
    exact Nat.lt_of_lt_of_le hM (Nat.pow_le_pow_right (by omega) (by omega))
  have hnm : Ow.Nm (Ow.digs ((s.size + 3) / 4) (Ow.mg s.data.toList)) := by
    refine Ow.digs_nm hlt ?_
    rcases Nat.eq_zero_or_pos s.size with h0 | h0
    · left; omega
    · right
      have hp := form_pos h h0
      rw [zOf_abs] at hp
      rw [show (4294967296 : Nat) = 256 ^ 4 from rfl, ← Nat.pow_mul]
      exact Nat.le_trans (Nat.pow_le_pow_right (by omega) (by omega)) hp
  refine ⟨_, rfl, ⟨v, _, by rw [← form_neg h], hd, hnm, by rw [Ow.digs_val _ _ hlt, zOf_abs], by rw [Ow.digs_len]; omega⟩, hg⟩
end Go.Proofs.YtlfiakpmnkhcdaaGreat
