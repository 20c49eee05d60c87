import Derived.Test.YtlfiakpmnkhcdaaLWC
import Derived.Test.YtlfiakpmnkhcdaaLWA
import Derived.Test.YtlfiakpmnkhcdaaLWE
namespace Oh
set_option linter.unusedVariables false
def val : List Nat → Nat
  | [] => 0
  | d :: l => d + 65536 * val l
def tr : List Nat → List Nat
  | [] => []
  | d :: l => if d = 0 ∧ tr l = [] then [] else d :: tr l
theorem val_tr : ∀ l, val (tr l) = val l
  | [] => rfl
  | d :: l => by
    have ih := val_tr l
    unfold tr
    split
    · rename_i h
      rw [h.2] at ih
      simp only [val] at ih ⊢
      rw [← ih, h.1]
    · simp only [val, ih]
theorem tr_len : ∀ l, (tr l).length ≤ l.length
  | [] => Nat.le_refl _
  | d :: l => by
    have := tr_len l
    unfold tr
    split
    · simp
    · simp; omega
theorem tr_zero : ∀ l, tr (l ++ [0]) = tr l
  | [] => rfl
  | d :: l => by
    show tr (d :: (l ++ [0])) = tr (d :: l)
    unfold tr
    rw [tr_zero l]
theorem tr_last : ∀ (l : List Nat) (x : Nat), x ≠ 0 → tr (l ++ [x]) = l ++ [x]
  | [], x, h => by simp [tr, h]
  | d :: l, x, h => by
    show tr (d :: (l ++ [x])) = d :: (l ++ [x])
    unfold tr
    rw [tr_last l x h, if_neg (fun hh => by simpa using hh.2)]
def Dg (l : List Nat) : Prop := ∀ x ∈ l, x < 65536
theorem val_lt : ∀ l, Dg l → val l < 65536 ^ l.length
  | [], _ => by simp [val]
  | d :: l, h => by
    have h1 := h d (List.mem_cons_self ..)
    have ih := val_lt l (fun x hx => h x (List.mem_cons_of_mem _ hx))
    simp only [val, List.length_cons, Nat.pow_succ]
    omega
def Nm (l : List Nat) : Prop := Dg l ∧ tr l = l
theorem tr_tr : ∀ l, tr (tr l) = tr l
  | [] => rfl
  | d :: l => by
    have ih := tr_tr l
    rw [tr]
    split
    · rfl
    · rename_i h
      rw [tr, ih, if_neg h]
theorem dg_tr : ∀ l, Dg l → Dg (tr l)
  | [], _ => by intro x hx; cases hx
  | d :: l, h => by
    have ih := dg_tr l (fun x hx => h x (List.mem_cons_of_mem _ hx))
    unfold tr
    split
    · intro x hx; cases hx
    · intro x hx
      rw [List.mem_cons] at hx
      rcases hx with rfl | hx
      · exact h _ (List.mem_cons_self ..)
      · exact ih x hx
theorem nm_tr {l : List Nat} (h : Dg l) : Nm (tr l) := ⟨dg_tr l h, tr_tr l⟩
theorem tr_take_zero {l : List Nat} {j : Nat} (h : j < l.length) (hz : l[j]?.getD 0 = 0) : tr (l.take (j + 1)) = tr (l.take j) := by
  rw [List.take_succ_eq_append_getElem h]
  rw [List.getElem?_eq_getElem h] at hz
  simp at hz
  rw [hz, tr_zero]
theorem tr_take_last {l : List Nat} {j : Nat} (h : j < l.length) (hz : l[j]?.getD 0 ≠ 0) : tr (l.take (j + 1)) = l.take (j + 1) := by
  rw [List.take_succ_eq_append_getElem h]
  rw [List.getElem?_eq_getElem h] at hz
  exact tr_last _ _ (by simpa using hz)
theorem val_split : ∀ (k : Nat) (l : List Nat), k ≤ l.length → val l = val (l.take k) + 65536 ^ k * val (l.drop k)
  | 0, l, _ => by simp [val]
  | k + 1, [], h => by simp at h
  | k + 1, d :: l, h => by
    have ih := val_split k l (by simpa using h)
    simp only [List.take_succ_cons, List.drop_succ_cons, val]
    rw [ih, Nat.mul_add, Nat.pow_succ, Nat.mul_comm (65536 ^ k) 65536, Nat.mul_assoc]
    omega
theorem dg_take {l : List Nat} (h : Dg l) (k : Nat) : Dg (l.take k) := fun x hx => h x (List.mem_of_mem_take hx)
theorem val_lt_of {l m : List Nat} {i : Nat} (hl : Dg l) (hm : Dg m) (h1 : i < l.length) (h2 : i < m.length) (hd : l.drop (i + 1) = m.drop (i + 1)) (hlt : l[i]?.getD 0 < m[i]?.getD 0) : val l < val m := by
  rw [val_split i l (by omega), val_split i m (by omega), List.drop_eq_getElem_cons h1, List.drop_eq_getElem_cons h2, hd]
  rw [List.getElem?_eq_getElem h1, List.getElem?_eq_getElem h2] at hlt
  simp only [Option.getD_some] at hlt
  have a := val_lt (l.take i) (dg_take hl i)
  rw [List.length_take, Nat.min_eq_left (by omega)] at a
  simp only [val]
  have b := Nat.mul_le_mul_left (65536 ^ i) (show l[i] + 1 ≤ m[i] by omega)
  rw [Nat.mul_add, Nat.mul_one] at b
  rw [Nat.mul_add, Nat.mul_add]
  omega
theorem drop_prev {l m : List Nat} {i : Nat} (h1 : i < l.length) (h2 : i < m.length) (hd : l.drop (i + 1) = m.drop (i + 1)) (he : l[i]?.getD 0 = m[i]?.getD 0) : l.drop i = m.drop i := by
  rw [List.drop_eq_getElem_cons h1, List.drop_eq_getElem_cons h2, hd]
  rw [List.getElem?_eq_getElem h1, List.getElem?_eq_getElem h2] at he
  simp only [Option.getD_some] at he
  rw [he]
theorem val_ge : ∀ l : List Nat, tr l = l → l ≠ [] → 65536 ^ (l.length - 1) ≤ val l
  | [], _, h => absurd rfl h
  | [d], h, _ => by
    have : d ≠ 0 := fun h0 => by rw [h0] at h; simp [tr] at h
    simp [val]; omega
  | d :: e :: l, h, _ => by
    have h1 : tr (e :: l) = e :: l := by
      rw [tr] at h
      split at h
      · cases h
      · exact (List.cons.inj h).2
    have ih := val_ge (e :: l) h1 (by simp)
    simp only [List.length_cons, Nat.add_sub_cancel] at ih ⊢
    show 65536 ^ (l.length + 1) ≤ d + 65536 * val (e :: l)
    rw [Nat.pow_succ]
    have := Nat.mul_le_mul_left 65536 ih
    omega
theorem val_short {l m : List Nat} (hl : Nm l) (hm : Nm m) (h : l.length < m.length) : val l < val m := by
  have a := val_lt l hl.1
  have b := val_ge m hm.2 (fun h0 => by rw [h0] at h; simp at h)
  have c : 65536 ^ l.length ≤ 65536 ^ (m.length - 1) := Nat.pow_le_pow_right (by omega) (by omega)
  omega
theorem val_take_succ : ∀ (l : List Nat) (k : Nat), val (l.take (k + 1)) = val (l.take k) + 65536 ^ k * (l[k]?.getD 0)
  | [], k => by simp [val]
  | d :: l, 0 => by simp [val]
  | d :: l, k + 1 => by
    have ih := val_take_succ l k
    simp only [List.take_succ_cons, val, List.getElem?_cons_succ]
    rw [ih, Nat.mul_add, Nat.pow_succ, Nat.mul_comm (65536 ^ k) 65536, Nat.mul_assoc]
    omega
theorem val_snoc : ∀ (l : List Nat) (d : Nat), val (l ++ [d]) = val l + 65536 ^ l.length * d
  | [], d => by simp [val]
  | e :: l, d => by
    simp only [List.cons_append, val, List.length_cons]
    rw [val_snoc l d, Nat.mul_add, Nat.pow_succ, Nat.mul_comm (65536 ^ l.length) 65536, Nat.mul_assoc]
    omega
theorem dg_snoc {l : List Nat} {d : Nat} (h : Dg l) (hd : d < 65536) : Dg (l ++ [d]) := fun x hx => by
  rcases List.mem_append.1 hx with h1 | h1
  · exact h x h1
  · simp at h1; omega
theorem dg_at {l : List Nat} (h : Dg l) (i : Nat) : l[i]?.getD 0 < 65536 := by
  by_cases hi : i < l.length
  · rw [List.getElem?_eq_getElem hi]; exact h _ (List.getElem_mem hi)
  · rw [List.getElem?_eq_none (by omega)]; simp
theorem dg_nil : Dg [] := fun x hx => (by cases hx)
def SumI (l m : List Nat) (k : Nat) (pre : List Nat) (c : Nat) : Prop := pre.length = k ∧ Dg pre ∧ c ≤ 1 ∧ val pre + c * 65536 ^ k = val (l.take k) + val (m.take k)
theorem SumI.start (l m : List Nat) : SumI l m 0 [] 0 := ⟨rfl, dg_nil, by omega, by simp [val]⟩
theorem SumI.step {l m : List Nat} {k c : Nat} {pre : List Nat} (h : SumI l m k pre c) (hl : Dg l) (hm : Dg m) :
    SumI l m (k + 1) (pre ++ [(l[k]?.getD 0 + m[k]?.getD 0 + c) % 65536]) ((l[k]?.getD 0 + m[k]?.getD 0 + c) / 65536) := by
  obtain ⟨h1, h2, h3, h4⟩ := h
  have a := dg_at hl k
  have b := dg_at hm k
  refine ⟨by simp [h1], dg_snoc h2 (Nat.mod_lt _ (by omega)), by omega, ?_⟩
  rw [val_snoc, h1, val_take_succ, val_take_succ]
  generalize l[k]?.getD 0 = x at *
  generalize m[k]?.getD 0 = y at *
  have e := Nat.div_add_mod (x + y + c) 65536
  generalize (x + y + c) / 65536 = q at *
  generalize (x + y + c) % 65536 = r at *
  rw [Nat.pow_succ]
  have : 65536 ^ k * r + q * (65536 ^ k * 65536) = 65536 ^ k * (x + y + c) := by
    rw [← e, Nat.mul_add, Nat.add_comm, Nat.mul_left_comm q, Nat.mul_comm q]
  rw [Nat.mul_add, Nat.mul_add, Nat.mul_comm _ c] at this
  omega
theorem SumI.all {l m : List Nat} {pre : List Nat} {c : Nat} (h : SumI l m l.length pre c) (hm : m.length ≤ l.length) : pre.length = l.length ∧ Dg pre ∧ c ≤ 1 ∧ val pre + c * 65536 ^ l.length = val l + val m := by
  obtain ⟨h1, h2, h3, h4⟩ := h
  rw [List.take_length, List.take_of_length_le hm] at h4
  exact ⟨h1, h2, h3, h4⟩
theorem dg_zero {l : List Nat} (h : Dg l) : Dg (l ++ [0]) := dg_snoc h (by omega)
theorem no_carry {l m l' : List Nat} {c n : Nat} (h : val l' + c * 65536 ^ (n + 1) = val l + val m) (hl : Dg l) (hm : Dg m) (hn : l.length ≤ n ∧ m.length ≤ n) : val l' = val l + val m := by
  have a := val_lt l hl
  have b := val_lt m hm
  have a2 : 65536 ^ l.length ≤ 65536 ^ n := Nat.pow_le_pow_right (by omega) hn.1
  have b2 : 65536 ^ m.length ≤ 65536 ^ n := Nat.pow_le_pow_right (by omega) hn.2
  rw [Nat.pow_succ] at h
  rcases Nat.eq_zero_or_pos c with rfl | hc
  · omega
  · have : 1 * (65536 ^ n * 65536) ≤ c * (65536 ^ n * 65536) := Nat.mul_le_mul_right _ hc
    omega
theorem val_zero (l : List Nat) : val (l ++ [0]) = val l := by rw [val_snoc]; omega
theorem drop_at {l : List Nat} {i : Nat} (h : i < l.length) : val (l.drop i) = l[i]?.getD 0 + 65536 * val (l.drop (i + 1)) := by
  rw [List.drop_eq_getElem_cons h, List.getElem?_eq_getElem h]; rfl
theorem tr_pos {l : List Nat} (h : Dg l) : 0 < (tr l).length ↔ 0 < val l := by
  constructor
  · intro h1
    have := val_ge (tr l) (tr_tr l) (by intro e; rw [e] at h1; simp at h1)
    rw [val_tr] at this
    exact Nat.lt_of_lt_of_le (Nat.pow_pos (by omega)) this
  · intro h1
    rcases Nat.eq_zero_or_pos (tr l).length with h2 | h2
    · have := List.length_eq_zero_iff.1 h2
      rw [← val_tr, this] at h1; simp [val] at h1
    · exact h2
theorem nm_len {l : List Nat} (h : Nm l) {N : Nat} (hv : val l < 65536 ^ N) : l.length ≤ N := by
  rcases Nat.eq_zero_or_pos l.length with h0 | h0
  · omega
  · have := val_ge l h.2 (by intro e; rw [e] at h0; simp at h0)
    have := (Nat.pow_lt_pow_iff_right (by omega : 1 < 65536)).1 (Nat.lt_of_le_of_lt this hv)
    omega
theorem dg_drop {l : List Nat} (h : Dg l) (k : Nat) : Dg (l.drop k) := fun x hx => h x (List.mem_of_mem_drop hx)
theorem pow32 (k : Nat) : 65536 ^ k = 2 ^ (16 * k) := by rw [Nat.pow_mul]
theorem bl_digits {l : List Nat} {x k : Nat} (hl : Dg l) (hx : 1 ≤ x) (h : Ow.BitLen x k) : Ow.BitLen (val (l ++ [x])) (16 * l.length + k) := by
  have a := val_lt l hl
  rw [pow32] at a
  rw [val_snoc, pow32]
  obtain ⟨b, c, _⟩ := h
  have c := c hx
  refine ⟨?_, fun _ => ⟨by omega, ?_⟩, fun h => ?_⟩
  · have : 2 ^ (16 * l.length) * (x + 1) ≤ 2 ^ (16 * l.length) * 2 ^ k := Nat.mul_le_mul_left _ b
    rw [Nat.mul_add, Nat.mul_one] at this
    rw [Nat.pow_add]; omega
  · have : 2 ^ (16 * l.length) * 2 ^ (k - 1) ≤ 2 ^ (16 * l.length) * x := Nat.mul_le_mul_left _ c.2
    rw [← Nat.pow_add] at this
    rw [show 16 * l.length + k - 1 = 16 * l.length + (k - 1) by omega]; omega
  · have : 2 ^ (16 * l.length) * 1 ≤ 2 ^ (16 * l.length) * x := Nat.mul_le_mul_left _ hx
    have := Nat.two_pow_pos (16 * l.length)
    omega
theorem nm_last {l : List Nat} {x : Nat} (h : Nm (l ++ [x])) : 1 ≤ x := by
  rcases Nat.eq_zero_or_pos x with rfl | hx
  · have h2 := h.2
    rw [tr_zero] at h2
    have := tr_len l
    rw [h2] at this
    simp at this
    omega
  · exact hx
theorem snoc_of {l : List Nat} (h : 0 < l.length) : l = l.take (l.length - 1) ++ [l[l.length - 1]?.getD 0] := by
  have e : l.length - 1 + 1 = l.length := by omega
  have := List.take_succ_eq_append_getElem (l := l) (i := l.length - 1) (by omega)
  rw [e, List.take_length] at this
  conv => lhs; rw [this]
  rw [List.getElem?_eq_getElem (by omega)]; rfl
theorem val_set : ∀ (L : List Nat) (j d : Nat), j < L.length → val (L.set j d) + 65536 ^ j * (L[j]?.getD 0) = val L + 65536 ^ j * d
  | [], j, d, h => by simp at h
  | x :: L, 0, d, h => by simp [val]; omega
  | x :: L, j + 1, d, h => by
    have := val_set L j d (by simpa using h)
    simp only [List.set_cons_succ, val, List.getElem?_cons_succ, Nat.pow_succ]
    have e : ∀ y : Nat, 65536 ^ j * 65536 * y = 65536 * (65536 ^ j * y) := fun y => by rw [Nat.mul_comm (65536 ^ j), Nat.mul_assoc]
    rw [e, e]; omega
theorem dg_set {L : List Nat} (h : Dg L) (j : Nat) {d : Nat} (hd : d < 65536) : Dg (L.set j d) := fun x hx => by
  rcases List.mem_or_eq_of_mem_set hx with hx | rfl
  · exact h x hx
  · exact hd
theorem nm_of {l : List Nat} (h : Dg l) (h2 : l.length = 0 ∨ 65536 ^ (l.length - 1) ≤ val l) : tr l = l := by
  rcases h2 with h2 | h2
  · rw [List.length_eq_zero_iff.1 h2]; rfl
  · rcases Nat.eq_zero_or_pos l.length with h0 | h0
    · rw [List.length_eq_zero_iff.1 h0]; rfl
    · rw [snoc_of h0] at h2 ⊢
      apply tr_last
      intro e
      rw [e, val_zero] at h2
      have := val_lt (l.take (l.length - 1)) (dg_take h _)
      simp only [List.length_append, List.length_take, List.length_singleton] at h2 this
      rw [show min (l.length - 1) l.length = l.length - 1 by omega] at h2 this
      simp only [Nat.add_sub_cancel] at h2
      omega
theorem val_rep (n : Nat) : val (List.replicate n 0) = 0 := by
  induction n with
  | zero => rfl
  | succ n ih => simp [List.replicate_succ, val, ih]
theorem rep_at (n j : Nat) : (List.replicate n 0)[j]?.getD 0 = 0 := by
  rw [List.getElem?_replicate]; split <;> rfl
end Oh
namespace Oh
set_option linter.unusedVariables false
def digs : Nat → Nat → List Nat
  | 0, _ => []
  | k + 1, M => digs k M ++ [M / 65536 ^ k % 65536]
theorem digs_len : ∀ k M, (digs k M).length = k
  | 0, _ => rfl
  | k + 1, M => by simp [digs, digs_len k M]
theorem digs_dg : ∀ k M, Dg (digs k M)
  | 0, _ => dg_nil
  | k + 1, M => dg_snoc (digs_dg k M) (Nat.mod_lt _ (by omega))
theorem digs_val : ∀ k M, val (digs k M) = M % 65536 ^ k
  | 0, M => by rw [Nat.pow_zero, Nat.mod_one]; rfl
  | k + 1, M => by
    rw [digs, val_snoc, digs_len, digs_val k M, Nat.mod_pow_succ]
theorem digs_all {k M : Nat} (h : M < 65536 ^ k) : val (digs k M) = M := by rw [digs_val, Nat.mod_eq_of_lt h]
theorem digs_nm {k M : Nat} (h : M < 65536 ^ k) (h2 : k = 0 ∨ 65536 ^ (k - 1) ≤ M) : Nm (digs k M) := by
  refine ⟨digs_dg k M, nm_of (digs_dg k M) ?_⟩
  rw [digs_len, digs_all h]; exact h2
theorem pow256 (k : Nat) : 65536 ^ k = 256 ^ (2 * k) := by rw [Nat.pow_mul]
theorem byt_two {V d : Nat} (hV : 0 < V) (hd : d < 65536) : Ow.byt (65536 * V + d) = Ow.byt V ++ [UInt8.ofNat (d / 256)] ++ [UInt8.ofNat (d % 256)] := by
  rw [show 65536 * V + d = 256 * (256 * V + d / 256) + d % 256 by omega, Ow.byt_step (by omega) (by omega), Ow.byt_step (by omega) (by omega)]
theorem byt_high {d : Nat} (h : 256 ≤ d) (hd : d < 65536) : Ow.byt d = [UInt8.ofNat (d / 256)] ++ [UInt8.ofNat (d % 256)] := by
  conv => lhs; rw [show d = 256 * (256 * 0 + d / 256) + d % 256 by omega]
  rw [Ow.byt_step (by omega) (by omega), Ow.byt_step (by omega) (by omega), Ow.byt_zero]
  rfl
theorem byt_low {d : Nat} (h : 0 < d) (hd : d < 256) : Ow.byt d = [UInt8.ofNat d] := by
  conv => lhs; rw [show d = 256 * 0 + d by omega]
  rw [Ow.byt_step hd (by omega), Ow.byt_zero]
  rfl
theorem byt_pos {V : Nat} : 0 < (Ow.byt V).length ↔ 0 < V := by
  constructor
  · intro h
    apply Nat.pos_of_ne_zero; rintro rfl
    rw [Ow.byt_zero] at h; simp at h
  · intro h; exact List.length_pos_iff.2 (Ow.byt_ne h)
def Out (l : List Nat) (i : Nat) (b : List UInt8) : Prop := i ≤ l.length ∧ b = Ow.byt (val (l.drop i))
theorem Out.start (l : List Nat) : Out l l.length [] := ⟨Nat.le_refl _, by simp [val, Ow.byt_zero]⟩
theorem Out.two {l : List Nat} {i : Nat} {b : List UInt8} (h : Out l (i + 1) b) (hl : Dg l) (hc : 256 ≤ l[i]?.getD 0 ∨ 0 < b.length) :
    Out l i ((b ++ [UInt8.ofNat (l[i]?.getD 0 / 256)]) ++ [UInt8.ofNat (l[i]?.getD 0 % 256)]) := by
  obtain ⟨h1, rfl⟩ := h
  have hd := dg_at hl i
  refine ⟨by omega, ?_⟩
  rw [drop_at (l := l) (i := i) (by omega), Nat.add_comm (l[i]?.getD 0)]
  rw [byt_pos] at hc
  rcases Nat.eq_zero_or_pos (val (l.drop (i + 1))) with h0 | h0
  · rw [h0, Nat.mul_zero, Nat.zero_add, byt_high (by omega) hd, Ow.byt_zero]; rfl
  · rw [byt_two h0 hd]
theorem Out.one {l : List Nat} {i : Nat} {b : List UInt8} (h : Out l (i + 1) b) (hl : Nm l) (hc : l[i]?.getD 0 < 256) (hb : b.length = 0) :
    Out l i (b ++ [UInt8.ofNat (l[i]?.getD 0 % 256)]) := by
  obtain ⟨h1, rfl⟩ := h
  refine ⟨by omega, ?_⟩
  have h0 : val (l.drop (i + 1)) = 0 := by
    apply Classical.byContradiction; intro hn
    have := byt_pos.2 (Nat.pos_of_ne_zero hn); omega
  rw [drop_at (l := l) (i := i) (by omega), h0, Ow.byt_zero, Nat.mul_zero, Nat.add_zero]
  have hp : 0 < l[i]?.getD 0 := by
    apply Nat.pos_of_ne_zero; intro hz
    have e : val (l.drop i) = 0 := by rw [drop_at (l := l) (i := i) (by omega), h0, hz]
    have hs := val_split i l (by omega)
    rw [e, Nat.mul_zero, Nat.add_zero] at hs
    have hge := val_ge l hl.2 (by intro e; rw [e] at h1; simp at h1)
    have hlt := val_lt (l.take i) (dg_take hl.1 i)
    rw [List.length_take, show min i l.length = i by omega, ← hs] at hlt
    have := (Nat.pow_lt_pow_iff_right (by omega : 1 < 65536)).1 (Nat.lt_of_le_of_lt hge hlt)
    omega
  rw [byt_low hp hc, Nat.mod_eq_of_lt hc]
  rfl
theorem Out.all {l : List Nat} {b : List UInt8} (h : Out l 0 b) : b = Ow.byt (val l) := h.2
theorem Out.len {l : List Nat} {i : Nat} {b : List UInt8} (h : Out l i b) (hl : Dg l) : b.length ≤ 2 * (l.length - i) := by
  rw [h.2]
  apply Ow.byt_len.1
  have := val_lt (l.drop i) (dg_drop hl i)
  rw [List.length_drop, pow256] at this
  exact this
theorem val_digit : ∀ (l : List Nat) (q : Nat), Dg l → val l / 65536 ^ q % 65536 = l[q]?.getD 0
  | [], q, _ => by simp [val]
  | d :: l, 0, h => by
    have := h d (List.mem_cons_self ..)
    simp [val]; omega
  | d :: l, q + 1, h => by
    have h1 := h d (List.mem_cons_self ..)
    have ih := val_digit l q (fun x hx => h x (List.mem_cons_of_mem _ hx))
    rw [List.getElem?_cons_succ, ← ih, Nat.pow_succ, Nat.mul_comm (65536 ^ q), ← Nat.div_div_eq_div_mul]
    rw [show val (d :: l) / 65536 = val l by simp only [val]; omega]
end Oh
namespace Oh
set_option linter.unusedVariables false
end Oh
