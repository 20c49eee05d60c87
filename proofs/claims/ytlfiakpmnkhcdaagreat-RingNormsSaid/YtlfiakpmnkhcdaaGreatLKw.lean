import Derived.Test.YtlfiakpmnkhcdaaGreatLJw
import Derived.Test.YtlfiakpmnkhcdaaGreatLQk
import Derived.Test.YtlfiakpmnkhcdaaGreatLSwa
/- Sums and products of elements, pure. -/
namespace Go.Proofs.YtlfiakpmnkhcdaaGreat.Mo
open Go.RowKit Go.Shelf
set_option linter.unusedVariables false

def sumE (M : List Int) (s : Int) (rA rB : List (List Int)) : List (List Int) := rwA M (fun i m => (fun m x y => Oj.sumR x.length m x s y) m (rw_ rA i) (rw_ rB i))
theorem ev_rlen {N : Int} {ch : List Int} {S : Int} {lv : Int} {sp : Bool} {rA : List (List Int)} (hv : VP N ch S) (h : EV N ch S lv sp rA) {i : Nat} (hi : i < (Oj.mods ch S lv.toNat sp).length) :
    ∃ n : Nat, N = n ∧ 1 ≤ n ∧ n ≤ 32 ∧ 3 ≤ Op.cf (Oj.mods ch S lv.toNat sp) i ∧ (rw_ rA i).length = n ∧ (((Op.cf (Oj.mods ch S lv.toNat sp) i).toNat : Nat) : Int) = Op.cf (Oj.mods ch S lv.toNat sp) i := by
  obtain ⟨n, rfl, h4, h32⟩ := vp_dim hv
  obtain ⟨l, hl0⟩ := Int.eq_ofNat_of_zero_le (show 0 ≤ lv by have := h.1.1; omega)
  subst hl0
  have hm := (mods_ok hv h.1 hi).1
  have hr := (h.2.2 i hi).1
  exact ⟨n, rfl, by omega, h32, hm, by omega, Int.toNat_of_nonneg (by
    have : Oj.mods ch S (l : Int).toNat sp = Oj.mods ch S l sp := rfl
    rw [this]; omega)⟩
/-- A sum is an element. -/
theorem ev_sum {N : Int} {ch : List Int} {S lv : Int} {sp : Bool} {rA rB : List (List Int)} (s : Int) (hv : VP N ch S) (hA : EV N ch S lv sp rA) : EV N ch S lv sp (sumE (Oj.mods ch S lv.toNat sp) s rA rB) := by
  refine ev_rwA hA fun i hi => ?_
  obtain ⟨n, e, -, -, hm, hr, -⟩ := ev_rlen hv hA hi
  show RowOK N _ (Oj.sumR (rw_ rA i).length _ _ _ _)
  rw [hr]
  exact rws_ok e (Oj.sumR_rws (by omega) _ _ _)
theorem ev_prodE {N : Int} {ch : List Int} {S lv : Int} {sp : Bool} {rA rB : List (List Int)} (hv : VP N ch S) (hA : EV N ch S lv sp rA) : EV N ch S lv sp (prodE (Oj.mods ch S lv.toNat sp) rA rB) := ev_prod hv hA
end Go.Proofs.YtlfiakpmnkhcdaaGreat.Mo
/- Norms of elements, pure. -/
namespace Go.Proofs.YtlfiakpmnkhcdaaGreat.Mo
open Go.RowKit Go.Shelf
set_option linter.unusedVariables false

theorem nrm_nonneg' (zs : List Int) : ∀ i, i ≤ zs.length → 0 ≤ nrm (zs.take i) ∧ ∀ j, j < i → ((Op.cf zs j).natAbs : Int) ≤ nrm (zs.take i)
  | 0, _ => ⟨by simp [nrm], fun j hj => by omega⟩
  | i + 1, hi => by
    obtain ⟨h1, h2⟩ := nrm_nonneg' zs i (by omega)
    rw [nrm_take (by omega)]
    refine ⟨by split <;> omega, fun j hj => ?_⟩
    by_cases e : j = i
    · subst e; split <;> omega
    · have := h2 j (by omega)
      split <;> omega
theorem nrm_nonneg (zs : List Int) : 0 ≤ nrm zs := by
  have := (nrm_nonneg' zs zs.length (Nat.le_refl _)).1
  rwa [List.take_length] at this
theorem nrm_ge {zs : List Int} {j : Nat} (hj : j < zs.length) : ((Op.cf zs j).natAbs : Int) ≤ nrm zs := by
  have := (nrm_nonneg' zs zs.length (Nat.le_refl _)).2 j hj
  rwa [List.take_length] at this
theorem nrm_ge' (zs : List Int) (j : Nat) : ((Op.cf zs j).natAbs : Int) ≤ nrm zs := by
  by_cases hj : j < zs.length
  · exact nrm_ge hj
  · rw [Op.cf_out (by omega)]; exact nrm_nonneg zs
theorem nrm_le' {zs : List Int} {B : Int} (h0 : 0 ≤ B) (h : ∀ j, j < zs.length → ((Op.cf zs j).natAbs : Int) ≤ B) : ∀ i, i ≤ zs.length → nrm (zs.take i) ≤ B
  | 0, _ => by simpa [nrm] using h0
  | i + 1, hi => by
    have h1 := nrm_le' h0 h i (by omega)
    have h2 := h i (by omega)
    rw [nrm_take (by omega)]
    split <;> omega
theorem nrm_le {zs : List Int} {B : Int} (h0 : 0 ≤ B) (h : ∀ j, j < zs.length → ((Op.cf zs j).natAbs : Int) ≤ B) : nrm zs ≤ B := by
  have := nrm_le' h0 h zs.length (Nat.le_refl _)
  rwa [List.take_length] at this
/-- The balanced value is the least one. -/
theorem joinV_dvd {l r : List Int} {X Y : Int} (hs : Sys l) (h : JoinV l r X) (hY : ∀ j, j < l.length → Op.cf l j ∣ Y - Op.cf r j) : Or.pr l ∣ Y - X := by
  have h1 := Or.all_dvd hs.2.2.1 (z := Y - X) l.length (Nat.le_refl _) (fun j hj => by
    rw [at_cf]
    have e : Y - X = (Y - Op.cf r j) - (X - Op.cf r j) := by omega
    rw [e]; exact Int.dvd_sub (hY j hj) (h.2 j hj))
  rwa [List.take_length] at h1
theorem joinV_min {l r : List Int} {X Y : Int} (hs : Sys l) (h : JoinV l r X) (hY : ∀ j, j < l.length → Op.cf l j ∣ Y - Op.cf r j) : X.natAbs ≤ Y.natAbs := by
  obtain ⟨t, ht⟩ := joinV_dvd hs h hY
  obtain ⟨h1, h2⟩ := h.1
  generalize Or.pr l = P at *
  have hP : 0 < P := by omega
  rcases Int.lt_trichotomy t 0 with h3 | h3 | h3
  · have : P * t ≤ P * (-1) := Int.mul_le_mul_of_nonneg_left (by omega) (by omega)
    omega
  · subst h3; omega
  · have : P * 1 ≤ P * t := Int.mul_le_mul_of_nonneg_left (by omega) (by omega)
    omega
theorem joinV_neg {l r : List Int} {X : Int} (h : JoinV l r X) {s : List Int} (hn : ∀ j, j < l.length → Op.cf l j ∣ Op.cf s j + Op.cf r j) : JoinV l s (-X) := by
  refine ⟨by have := h.1; omega, fun j hj => ?_⟩
  have e : -X - Op.cf s j = -((X - Op.cf r j) + (Op.cf s j + Op.cf r j)) := by omega
  rw [e]; exact Int.dvd_neg.2 (Int.dvd_add (h.2 j hj) (hn j hj))
theorem joinV_cong {l r s : List Int} {X : Int} (h : JoinV l r X) (hn : ∀ j, j < l.length → Op.cf l j ∣ Op.cf r j - Op.cf s j) : JoinV l s X := by
  refine ⟨h.1, fun j hj => ?_⟩
  have e : X - Op.cf s j = (X - Op.cf r j) + (Op.cf r j - Op.cf s j) := by omega
  rw [e]; exact Int.dvd_add (h.2 j hj) (hn j hj)
theorem joinV_zero {l s : List Int} (hs : Sys l) (hn : ∀ j, j < l.length → Op.cf s j = 0) : JoinV l s 0 := by
  have h1 := pr_le hs.1
  refine ⟨by omega, fun j hj => ?_⟩
  rw [hn j hj]; exact ⟨0, by omega⟩
theorem colR_at {rows : List (List Int)} {i : Nat} (hi : i < rows.length) (j : Nat) : Op.cf (colR rows j) i = Op.cf (rw_ rows i) j := by
  unfold colR
  rw [Oj.rowL_at _ _ hi]
section
variable {N : Int} {ch : List Int} {S lv : Int} {sp : Bool} {rA rB : List (List Int)} {za zb zc : List Int}
theorem wdz_sum (hv : VP N ch S) (hA : EV N ch S lv sp rA) (hB : EV N ch S lv sp rB) (hs : Sys (Oj.mods ch S lv.toNat sp)) (a : WdZ N (Oj.mods ch S lv.toNat sp) rA za) (b : WdZ N (Oj.mods ch S lv.toNat sp) rB zb) (c : WdZ N (Oj.mods ch S lv.toNat sp) (sumE (Oj.mods ch S lv.toNat sp) 1 rA rB) zc) : nrm zc ≤ nrm za + nrm zb := by
  have h1 := nrm_nonneg za
  have h2 := nrm_nonneg zb
  refine nrm_le (by omega) fun j hj => ?_
  have hla : za.length = zc.length := by have := a.1; have := c.1; omega
  have hlb : zb.length = zc.length := by have := b.1; have := c.1; omega
  have h3 := nrm_ge (zs := za) (j := j) (by omega)
  have h4 := nrm_ge (zs := zb) (j := j) (by omega)
  have h5 := joinV_min (Y := Op.cf za j + Op.cf zb j) hs (c.2 j hj) (fun i hi => by
    have ka := (a.2 j (by omega)).2 i hi
    have kb := (b.2 j (by omega)).2 i hi
    obtain ⟨n, e, -, -, hm, hr, -⟩ := ev_rlen hv hA hi
    rw [colR_at (by rw [hA.2.1]; exact hi)] at ka
    rw [colR_at (by rw [hB.2.1]; exact hi)] at kb
    rw [colR_at (by unfold sumE; rw [rwA_len]; exact hi)]
    unfold sumE
    rw [rwA_at _ _ hi]
    show _ ∣ _ - Op.cf (Oj.sumR _ _ _ _ _) j
    unfold Oj.sumR
    rw [Oj.rowL_at _ _ (by have := c.1; omega)]
    have k := Op.dvd_mod (Op.cf (Oj.mods ch S lv.toNat sp) i) (Op.cf (rw_ rA i) j + 1 * Op.cf (rw_ rB i) j)
    generalize (Op.cf (rw_ rA i) j + 1 * Op.cf (rw_ rB i) j) % Op.cf (Oj.mods ch S lv.toNat sp) i = y at *
    have e2 : Op.cf za j + Op.cf zb j - y = (Op.cf za j - Op.cf (rw_ rA i) j) + (Op.cf zb j - Op.cf (rw_ rB i) j) - (y - (Op.cf (rw_ rA i) j + 1 * Op.cf (rw_ rB i) j)) := by omega
    rw [e2]; exact Int.dvd_sub (Int.dvd_add ka kb) k)
  omega
/-- The sum of the absolute values. -/
def sAb (zs : List Int) : Int := Op.S zs.length (fun i => ((Op.cf zs i).natAbs : Int))
theorem S_dvd {m : Int} {f g : Nat → Int} : ∀ {n : Nat}, (∀ i, i < n → m ∣ f i - g i) → m ∣ Op.S n f - Op.S n g
  | 0, _ => ⟨0, by simp [Op.S]⟩
  | n + 1, h => by
    have h1 := S_dvd (n := n) (fun i hi => h i (by omega))
    have h2 := h n (by omega)
    rw [Op.S, Op.S]
    have e : Op.S n f + f n - (Op.S n g + g n) = (Op.S n f - Op.S n g) + (f n - g n) := by omega
    rw [e]; exact Int.dvd_add h1 h2
theorem S_abs {f : Nat → Int} {g : Nat → Int} {B : Int} : ∀ {n : Nat}, (∀ i, i < n → ((f i).natAbs : Int) ≤ g i * B) → ((Op.S n f).natAbs : Int) ≤ Op.S n g * B
  | 0, _ => by simp [Op.S]
  | n + 1, h => by
    have h1 := S_abs (n := n) (fun i hi => h i (by omega))
    have h2 := h n (by omega)
    rw [Op.S, Op.S, Int.add_mul]
    omega
theorem sb_cong {n : Nat} {m : Int} {x y : List Int} (h : ∀ i, m ∣ Op.cf x i - Op.cf y i) (k i : Nat) : m ∣ Oj.sb n x k i - Oj.sb n y k i := by
  unfold Oj.sb
  split
  · exact h _
  · rename_i _
    have e : -Op.cf x (n + k - i) - -Op.cf y (n + k - i) = -(Op.cf x (n + k - i) - Op.cf y (n + k - i)) := by omega
    rw [e]; exact Int.dvd_neg.2 (h _)
theorem sb_abs (n : Nat) (x : List Int) (k i : Nat) : ((Oj.sb n x k i).natAbs : Int) ≤ nrm x := by
  unfold Oj.sb
  split
  · exact nrm_ge' _ _
  · rw [Int.natAbs_neg]; exact nrm_ge' _ _
theorem np_abs {n : Nat} {x y : List Int} (hx : x.length = n) (k : Nat) : ((Oj.np n x y k).natAbs : Int) ≤ sAb x * nrm y := by
  unfold Oj.np sAb
  rw [hx]
  refine S_abs fun i _ => ?_
  rw [Int.natAbs_mul, Int.natCast_mul]
  exact Int.mul_le_mul_of_nonneg_left (sb_abs n y k i) (by omega)
theorem mul_cong {m a b x y : Int} (h1 : m ∣ a - x) (h2 : m ∣ b - y) : m ∣ a * b - x * y := by
  have e : a * b - x * y = (a - x) * b + x * (b - y) := by rw [Int.sub_mul, Int.mul_sub]; omega
  rw [e]; exact Int.dvd_add (Int.dvd_mul_of_dvd_left h1) (Int.dvd_mul_of_dvd_right h2)
theorem wdz_prod (hv : VP N ch S) (hA : EV N ch S lv sp rA) (hB : EV N ch S lv sp rB) (hs : Sys (Oj.mods ch S lv.toNat sp)) (a : WdZ N (Oj.mods ch S lv.toNat sp) rA za) (b : WdZ N (Oj.mods ch S lv.toNat sp) rB zb) (c : WdZ N (Oj.mods ch S lv.toNat sp) (prodE (Oj.mods ch S lv.toNat sp) rA rB) zc) : nrm zc ≤ sAb za * nrm zb := by
  have hla : za.length = zc.length := by have := a.1; have := c.1; omega
  have hlb : zb.length = zc.length := by have := b.1; have := c.1; omega
  refine nrm_le (Int.le_trans (by omega) (np_abs (x := za) (y := zb) rfl 0)) fun j hj => ?_
  have h4 := np_abs (x := za) (y := zb) rfl j
  rw [hla] at h4
  have h5 := joinV_min (Y := Oj.np zc.length za zb j) hs (c.2 j hj) (fun i hi => by
    obtain ⟨n, e, -, -, hm, hr, e2⟩ := ev_rlen hv hA hi
    obtain ⟨n', e', -, -, -, hr', -⟩ := ev_rlen hv hB hi
    have hn : zc.length = n := by have := c.1; omega
    have hn' : n' = n := by omega
    rw [colR_at (by unfold prodE; rw [rwA_len]; exact hi)]
    unfold prodE
    rw [rwA_at _ _ hi]
    show _ ∣ _ - Op.cf (Oj.prodR _ _ _ _) j
    unfold Oj.prodR
    rw [hr, Oj.rowL_at _ _ (by omega), e2]
    have ca : ∀ t, Op.cf (Oj.mods ch S lv.toNat sp) i ∣ Op.cf za t - Op.cf (rw_ rA i) t := fun t => by
      by_cases ht : t < za.length
      · have ka := (a.2 t ht).2 i hi
        rwa [colR_at (by rw [hA.2.1]; exact hi)] at ka
      · have g1 : Op.cf za t = 0 := Op.cf_out (by omega)
        have g2 : Op.cf (rw_ rA i) t = 0 := Op.cf_out (by omega)
        rw [g1, g2]; exact ⟨0, by omega⟩
    have cb : ∀ t, Op.cf (Oj.mods ch S lv.toNat sp) i ∣ Op.cf zb t - Op.cf (rw_ rB i) t := fun t => by
      by_cases ht : t < zb.length
      · have ka := (b.2 t ht).2 i hi
        rwa [colR_at (by rw [hB.2.1]; exact hi)] at ka
      · have g1 : Op.cf zb t = 0 := Op.cf_out (by omega)
        have g2 : Op.cf (rw_ rB i) t = 0 := Op.cf_out (by omega)
        rw [g1, g2]; exact ⟨0, by omega⟩
    have k := Op.dvd_mod (Op.cf (Oj.mods ch S lv.toNat sp) i) (Oj.np n (rw_ rA i) (rw_ rB i) j)
    have k2 : Op.cf (Oj.mods ch S lv.toNat sp) i ∣ Oj.np zc.length za zb j - Oj.np n (rw_ rA i) (rw_ rB i) j := by
      rw [hn]
      unfold Oj.np
      exact S_dvd fun t _ => mul_cong (ca t) (sb_cong cb j t)
    generalize Oj.np n (rw_ rA i) (rw_ rB i) j % Op.cf (Oj.mods ch S lv.toNat sp) i = y at *
    have e3 : Oj.np zc.length za zb j - y = (Oj.np zc.length za zb j - Oj.np n (rw_ rA i) (rw_ rB i) j) - (y - Oj.np n (rw_ rA i) (rw_ rB i) j) := by omega
    rw [e3]; exact Int.dvd_sub k2 k)
  omega
theorem wdz_auto {k : Nat} (hk : k % 2 = 1) (hv : VP N ch S) (hA : EV N ch S lv sp rA) (nA : Nn rA) (hs : Sys (Oj.mods ch S lv.toNat sp)) (a : WdZ N (Oj.mods ch S lv.toNat sp) rA za) (c : WdZ N (Oj.mods ch S lv.toNat sp) (autoE (Oj.mods ch S lv.toNat sp) k rA) zc) : nrm zc = nrm za := by
  have hla : za.length = zc.length := by have := a.1; have := c.1; omega
  obtain ⟨n, hn, hD⟩ : ∃ n : Nat, N = n ∧ Oj.Dim n := by
    obtain ⟨n, e, -⟩ := vp_dim hv
    refine ⟨n, e, ?_⟩
    have := hv.1
    unfold DimI at this
    unfold Oj.Dim
    omega
  have hnc : zc.length = n := by have := c.1; omega
  have hn1 : 1 ≤ n := by rcases hD with rfl | rfl | rfl | rfl <;> omega
  have row : ∀ i, i < (Oj.mods ch S lv.toNat sp).length → (rw_ rA i).length = n ∧ rw_ (autoE (Oj.mods ch S lv.toNat sp) k rA) i = Oj.autoR n (Op.cf (Oj.mods ch S lv.toNat sp) i) k (rw_ rA i) := fun i hi => by
    obtain ⟨n', e, -, -, -, hr, -⟩ := ev_rlen hv hA hi
    have : n' = n := by omega
    subst this
    unfold autoE
    rw [rwA_at _ _ hi]
    simp only [hr, and_self]
  have hlE : (autoE (Oj.mods ch S lv.toNat sp) k rA).length = (Oj.mods ch S lv.toNat sp).length := by unfold autoE; rw [rwA_len]
  -- the coefficient that i becomes
  have key : ∀ i, i < n → ((Op.cf zc (Oj.ps n k i)).natAbs : Int) = (Op.cf za i).natAbs := fun i hi => by
    have hp := Oj.ps_lt (k := k) (i := i) hn1
    have h1 := c.2 (Oj.ps n k i) (by omega)
    have h2 := a.2 i (by omega)
    by_cases hw : i * k % (2 * n) < n
    · have h3 : JoinV (Oj.mods ch S lv.toNat sp) (colR (autoE (Oj.mods ch S lv.toNat sp) k rA) (Oj.ps n k i)) (Op.cf za i) := joinV_cong h2 fun t ht => by
        rw [colR_at (rows := rA) (by rw [hA.2.1]; exact ht), colR_at (rows := autoE (Oj.mods ch S lv.toNat sp) k rA) (by rw [hlE]; exact ht), (row t ht).2, Oj.autoR_at hD hk hi, Oj.vl, if_pos hw]
        exact ⟨0, by omega⟩
      rw [h1.unique hs h3]
    · have h3 : JoinV (Oj.mods ch S lv.toNat sp) (colR (autoE (Oj.mods ch S lv.toNat sp) k rA) (Oj.ps n k i)) (-(Op.cf za i)) := joinV_neg h2 fun t ht => by
        rw [colR_at (rows := rA) (by rw [hA.2.1]; exact ht), colR_at (rows := autoE (Oj.mods ch S lv.toNat sp) k rA) (by rw [hlE]; exact ht), (row t ht).2, Oj.autoR_at hD hk hi, Oj.vl, if_neg hw]
        have k1 := Op.dvd_mod (Op.cf (Oj.mods ch S lv.toNat sp) t) (-(Op.cf (rw_ rA t) i))
        have e : (-(Op.cf (rw_ rA t) i)) % Op.cf (Oj.mods ch S lv.toNat sp) t + Op.cf (rw_ rA t) i = (-(Op.cf (rw_ rA t) i)) % Op.cf (Oj.mods ch S lv.toNat sp) t - -(Op.cf (rw_ rA t) i) := by omega
        rw [e]; exact k1
      rw [h1.unique hs h3, Int.natAbs_neg]
  apply Int.le_antisymm
  · refine nrm_le (nrm_nonneg za) fun p hp => ?_
    by_cases hex : ∃ i, i < n ∧ p = Oj.ps n k i
    · obtain ⟨i, hi, rfl⟩ := hex
      rw [key i hi]
      exact nrm_ge (by omega)
    · have h3 : JoinV (Oj.mods ch S lv.toNat sp) (colR (autoE (Oj.mods ch S lv.toNat sp) k rA) p) 0 := joinV_zero hs fun t ht => by
        rw [colR_at (by rw [hlE]; exact ht), (row t ht).2]
        exact (Oj.autoS_cf (a := rw_ rA t) (m := Op.cf (Oj.mods ch S lv.toNat sp) t) hD hk n (Nat.le_refl _)).2 p (fun i hi e => hex ⟨i, hi, e⟩)
      rw [(c.2 p hp).unique hs h3]
      exact nrm_nonneg za
  · refine nrm_le (nrm_nonneg zc) fun i hi => ?_
    rw [← key i (by omega)]
    exact nrm_ge' _ _
end
theorem sAb_nonneg (zs : List Int) : 0 ≤ sAb zs := by
  unfold sAb
  generalize zs.length = n
  induction n with
  | zero => simp [Op.S]
  | succ n ih => rw [Op.S]; omega
theorem sAb_take {zs : List Int} {i : Nat} (hi : i < zs.length) : sAb (zs.take (i + 1)) = sAb (zs.take i) + ((Op.cf zs i).natAbs : Int) := by
  unfold sAb
  rw [List.length_take, List.length_take, Nat.min_eq_left (by omega), Nat.min_eq_left (by omega), Op.S]
  congr 1
  · exact Op.S_cong fun j hj => by rw [Op.cf_take, Op.cf_take, if_pos (by omega), if_pos hj]
  · rw [Op.cf_take, if_pos (by omega)]
end Go.Proofs.YtlfiakpmnkhcdaaGreat.Mo
/- Sizes of wide integers: Abs, Cmp of the reference; sumOf, atMost of the law. -/
namespace Go.Proofs.YtlfiakpmnkhcdaaGreat.Mo
open Go.RowKit Go.Shelf
set_option linter.unusedVariables false

/-- The greatest product of a system. -/
def mM : Nat := 2147483647 ^ 25
theorem big_R : 32 * (mM * mM) < Ow.R := by unfold Ow.R mM; decide +kernel
theorem mM_pos : 1 ≤ mM := by unfold mM; decide +kernel
theorem inR_big {x : Int} (h0 : 0 ≤ x) (h : x ≤ 32 * ((mM : Int) * (mM : Int))) : InR x := by
  have h1 := big_R
  have e : ((32 * (mM * mM) : Nat) : Int) = 32 * ((mM : Int) * (mM : Int)) := by simp
  rw [← e] at h
  unfold InR
  generalize 32 * (mM * mM) = Z at *
  omega
theorem mM_le {x : Int} (h : x ≤ 32 * (mM : Int)) : x ≤ 32 * ((mM : Int) * (mM : Int)) := by
  have h1 : (mM : Int) * 1 ≤ (mM : Int) * (mM : Int) := Int.mul_le_mul_of_nonneg_left (by have := mM_pos; omega) (by omega)
  omega
theorem pr_mM {l : List Int} (hs : Sys l) : Or.pr l ≤ (mM : Int) := by
  have h := (pr_le hs.1).2
  have h2 : (2147483647 ^ l.length : Nat) ≤ mM := Nat.pow_le_pow_right (by omega) hs.2.2.2.2
  have e : ((2147483647 ^ l.length : Nat) : Int) = (2147483647 : Int) ^ l.length := by simp
  rw [← e] at h
  exact Int.le_trans h (Int.ofNat_le.2 h2)
theorem wdz_abs {N : Int} {M : List Int} {rows : List (List Int)} {zs : List Int} (hs : Sys M) (h : WdZ N M rows zs) {j : Nat} (hj : j < zs.length) : ((Op.cf zs j).natAbs : Int) ≤ (mM : Int) := by
  have h1 := (h.2 j hj).1
  have h2 := pr_mM hs
  omega
theorem nrm_mM {N : Int} {M : List Int} {rows : List (List Int)} {zs : List Int} (hs : Sys M) (h : WdZ N M rows zs) : nrm zs ≤ (mM : Int) := nrm_le (by omega) fun j hj => wdz_abs hs h hj
theorem S_le {f : Nat → Int} {B : Int} : ∀ {n : Nat}, (∀ i, i < n → f i ≤ B) → Op.S n f ≤ n * B
  | 0, _ => by simp [Op.S]
  | n + 1, h => by
    have h1 := S_le (n := n) (fun i hi => h i (by omega))
    have h2 := h n (by omega)
    rw [Op.S, Int.natCast_add, Int.add_mul]
    omega
theorem sAb_mM {N : Int} {M : List Int} {rows : List (List Int)} {zs : List Int} (hs : Sys M) (h : WdZ N M rows zs) (hN : N ≤ 32) : sAb zs ≤ 32 * (mM : Int) := by
  have h1 : sAb zs ≤ zs.length * (mM : Int) := S_le fun i hi => wdz_abs hs h hi
  have h2 : (zs.length : Int) * (mM : Int) ≤ 32 * (mM : Int) := Int.mul_le_mul_of_nonneg_right (by have := h.1; omega) (by omega)
  omega
theorem inR_nrm {N : Int} {M : List Int} {rows : List (List Int)} {zs : List Int} (hs : Sys M) (h : WdZ N M rows zs) : InR (nrm zs) := inR_big (nrm_nonneg zs) (mM_le (by have := nrm_mM hs h; omega))
theorem inR_nrm2 {N : Int} {M : List Int} {rA rB : List (List Int)} {za zb : List Int} (hs : Sys M) (h : WdZ N M rA za) (k : WdZ N M rB zb) : InR (nrm za + nrm zb) :=
  inR_big (by have := nrm_nonneg za; have := nrm_nonneg zb; omega) (mM_le (by have := nrm_mM hs h; have := nrm_mM hs k; omega))
theorem inR_sAb {N : Int} {M : List Int} {rows : List (List Int)} {zs : List Int} (hs : Sys M) (h : WdZ N M rows zs) (hN : N ≤ 32) : InR (sAb zs) := inR_big (sAb_nonneg zs) (mM_le (sAb_mM hs h hN))
theorem inR_sAb2 {N : Int} {M : List Int} {rA rB : List (List Int)} {za zb : List Int} (hs : Sys M) (h : WdZ N M rA za) (k : WdZ N M rB zb) (hN : N ≤ 32) : InR (sAb za * nrm zb) := by
  have h1 := sAb_mM hs h hN
  have h2 := nrm_mM hs k
  have h3 := sAb_nonneg za
  have h4 := nrm_nonneg zb
  refine inR_big (Int.mul_nonneg h3 h4) ?_
  have h5 : sAb za * nrm zb ≤ (32 * (mM : Int)) * (mM : Int) := Int.mul_le_mul h1 h2 h4 (by omega)
  rw [Int.mul_assoc] at h5
  exact h5
theorem nm_ok {N : Int} {ch : List Int} {S : Int} {lv : Int} {sp : Bool} {rows : List (List Int)} {w w' : World} {e : Ending} (h : NmP N ch S lv sp rows w e w') (hok : WdOK N ch S lv sp rows) : ∃ zs X, e = .returned (.tuple #[wv X, .int .i64 0]) ∧ Gr w w' ∧ WdZ N (Oj.mods ch S lv.toNat sp) rows zs ∧ X = nrm zs := by
  obtain ⟨X, c, rfl, hg, ⟨-, rfl, zs, hz, hX⟩ | ⟨h1, -⟩⟩ := h
  · exact ⟨zs, X, rfl, hg, hz, hX⟩
  · exact absurd hok h1
theorem bstr0' : bstr 0 = ⟨#[]⟩ := by unfold bstr; rw [Ow.byt_zero]
theorem rwabs_any (x : Int) (w : World) (hx : InR x) : Calls Tryz.prog 84 #[wv x] w (fun e w' => e = .returned (.tuple #[wv (x.natAbs : Int), .int .i64 0]) ∧ Gr w w') := by
  refine (Go.Proofs.YtlfiakpmnkhcdaaGreat.rabs_ok _ _ w (form_bstr x hx)).mono ?_
  rintro e w' ⟨rfl, hg⟩
  have h : wv (x.natAbs : Int) = .agg #[.bool false, .string (bstr x.natAbs)] := by
    unfold wv
    rw [decide_eq_false (show ¬ ((x.natAbs : Int) < 0) by omega), Int.natAbs_natCast]
  rw [h]
  exact ⟨rfl, hg⟩
theorem rwcmp_any (x y : Int) (w : World) (hx : InR x) (hy : InR y) : Calls Tryz.prog 91 #[wv x, wv y] w (fun e w' => e = .returned (.tuple #[.int .i64 (sgn x y), .int .i64 0]) ∧ Gr w w') := by
  refine (Go.Proofs.YtlfiakpmnkhcdaaGreat.rcmp_ok _ _ _ _ w (form_bstr x hx) (form_bstr y hy)).mono ?_
  rintro e w' ⟨rfl, hg⟩
  rw [zOf_bstr, zOf_bstr]
  exact ⟨rfl, hg⟩

set_option maxRecDepth 100000 in
set_option maxHeartbeats 1000000 in
theorem atMost_any (x y : Int) (w : World) (hx : InR x) (hy : InR y) (h : x ≤ y) : Calls Tryz.prog 43 #[wv x, wv y] w (fun e w' => e = .returned (.bool true) ∧ Gr w w') := by
  obtain ⟨W0, hW0⟩ : ∃ W0, W0 = (w.alloc (.cells #[.bool (decide (x < 0)), .string (bstr x.natAbs)] 50)).alloc (.cells #[.bool (decide (y < 0)), .string (bstr y.natAbs)] 50) := ⟨_, rfl⟩
  have HG0 := Lib.hid (show Gr w W0 by rw [hW0]; exact (Gr.new w _).alloc _)
  have HC := Lib.hid (rwcmp_any x y W0 hx hy)
  have hs : decide (sgn x y ≤ 0) = true := by
    unfold sgn
    rw [decide_eq_true_eq]
    split
    · omega
    · split <;> omega
  obtain ⟨k, hk⟩ : ∃ k, k = sgn x y := ⟨_, rfl⟩
  rw [← hk] at HC hs
  clear hx hy h hk
  unfold wv
  go_enter Tryz.func43, Tryz.ntmps43
  go_wp2_with fail
  rw [← hW0]
  clear hW0
  refine HC.out.mono ?_
  rintro e w1 ⟨rfl, hg1⟩
  have HG1 := Lib.hid (HG0.out.trans hg1)
  clear hg1
  go_wp2_with fail
  go_ret
  exact ⟨rfl, HG1.out⟩

theorem sAb_take_le (zs : List Int) : ∀ i, i ≤ zs.length → 0 ≤ sAb (zs.take i) ∧ sAb (zs.take i) ≤ sAb zs := by
  have key : ∀ j i, i + j = zs.length → sAb (zs.take i) ≤ sAb zs := by
    intro j
    induction j with
    | zero => intro i hi; rw [List.take_of_length_le (by omega)]; exact Int.le_refl _
    | succ j ih =>
      intro i hi
      have h1 := ih (i + 1) (by omega)
      rw [sAb_take (by omega)] at h1
      omega
  intro i hi
  exact ⟨sAb_nonneg _, key (zs.length - i) i (by omega)⟩
theorem inR_le {x B : Int} (h0 : 0 ≤ x) (h : x ≤ B) (hB : InR B) : InR x := by unfold InR at *; omega

set_option maxRecDepth 100000 in
set_option maxHeartbeats 4000000 in
theorem sumOf_any (u : Value) (zs : List Int) (w : World) (hw : HasW w u zs) (hl : zs.length ≤ 1000) (hin : ∀ i, i < zs.length → InR (Op.cf zs i)) (hs : InR (sAb zs)) :
    Calls Tryz.prog 42 #[u] w (fun e w' => e = .returned (wv (sAb zs)) ∧ Gr w w') := by
  obtain ⟨a, cz, rfl, -, -⟩ := id hw
  obtain ⟨W0, hW0⟩ : ∃ W0, W0 = (w.alloc (.cells #[.bool false, .string ⟨#[]⟩] 50)).alloc (.cells #[.bool false, .string ⟨#[]⟩] 50) := ⟨_, rfl⟩
  have HG0 := Lib.hid (show Gr w W0 by rw [hW0]; exact (Gr.new w _).alloc _)
  have HBR := Lib.hid (show Blk W0 w.heap.size 50 #[.bool false, .string ⟨#[]⟩] by rw [hW0]; exact (Blk.new w _ _).gr (Gr.new _ _))
  have HB0 := Lib.hid (show Blk W0 (w.heap.size + 1) 50 #[.bool (decide ((0 : Int) < 0)), .string (bstr (0 : Int).natAbs)] by
    rw [show Int.natAbs 0 = 0 from rfl, bstr0', hW0]; exact Blk.newk _ _ (by simp))
  obtain ⟨n, hn⟩ : ∃ n, n = zs.length := ⟨_, rfl⟩
  rw [← hn] at hl ⊢
  have HN := Lib.hid hn
  have HW := Lib.hid hw
  have HIN := Lib.hid hin
  have HS := Lib.hid hs
  have HTK := Lib.hid (sAb_take_le zs)
  clear hw hin hs hn
  go_enter Tryz.func42, Tryz.ntmps42
  go_upto_region 2 with (fail)
  rw [← hW0]
  clear hW0
  go_wp2_with fail
  go_loopw [4, 5, 6] (fun t _ _ wr => ∃ (i : Nat) (X : Int), t = .int .i64 i ∧ i ≤ n ∧ X = sAb (zs.take i) ∧ Blk wr (w.heap.size + 1) 50 #[.bool (decide (X < 0)), .string (bstr X.natAbs)] ∧ Blk wr w.heap.size 50 #[.bool false, .string ⟨#[]⟩] ∧ Gr w wr) (fun t _ _ _ => n - (intOf t).toNat)
  case atStart => exact ⟨0, 0, rfl, by omega, rfl, HB0.out, HBR.out, HG0.out⟩
  case round =>
    obtain ⟨i, X, rfl, hi, hX, hb, hbr, hg⟩ := hrel
    have HX := Lib.hid hX
    have HB := Lib.hid hb
    have HR := Lib.hid hbr
    have HG := Lib.hid hg
    clear hX hb hbr hg
    by_cases hlt : i < n
    · have i1 : (i : Int) < (n : Int) := by omega
      have i0 : (0 : Int) ≤ (i : Int) := by omega
      have hil : i < zs.length := by rw [← HN.out]; exact hlt
      obtain ⟨g, rfl, c1, c2⟩ := (HW.out.later HG.out).at_ hil
      have hz := HIN.out i hil
      have HT := Lib.hid (sAb_take hil)
      have HTA := Lib.hid (HTK.out i (by omega))
      have HTB := Lib.hid (HTK.out (i + 1) (by omega))
      obtain ⟨z, hze⟩ : ∃ z, z = Op.cf zs i := ⟨_, rfl⟩
      rw [← hze] at c1 c2 hz HT
      have HZI := Lib.hid hz
      have hzz : InR (z.natAbs : Int) := by unfold InR at *; omega
      have HZZ := Lib.hid hzz
      clear hil hz hze hzz
      go_wp2_with fail
      refine (rwabs_any z _ HZI.out).mono ?_
      rintro e w3 ⟨rfl, hg3⟩
      obtain ⟨Z, hZ⟩ : ∃ Z : Int, Z = (z.natAbs : Int) := ⟨_, rfl⟩
      rw [← hZ] at HZZ HT
      rw [← hZ]
      clear hZ
      have HXR := Lib.hid (show InR X by rw [HX.out]; exact inR_le HTA.out.1 HTA.out.2 HS.out)
      have HYR := Lib.hid (show InR (X + Z) by rw [HX.out, ← HT.out]; exact inR_le HTB.out.1 HTB.out.2 HS.out)
      rw [show wv Z = .agg #[.bool (decide (Z < 0)), .string (bstr Z.natAbs)] from rfl]
      have hg4 := hg3.trans (Gr.new w3 (.cells #[.bool (decide (Z < 0)), .string (bstr Z.natAbs)] 50))
      replace HG := Lib.hid (HG.out.trans hg4)
      replace HB := Lib.hid (HB.out.gr hg4)
      replace HR := Lib.hid (HR.out.gr hg4)
      obtain ⟨b0, b1⟩ := HB.out.p2
      clear hg3 hg4
      go_wp2_with fail
      refine (rwadd_any X Z _ HXR.out HZZ.out HYR.out).mono ?_
      rintro e w5 ⟨rfl, hg5⟩
      obtain ⟨Y, hY⟩ : ∃ Y : Int, Y = X + Z := ⟨_, rfl⟩
      have HYT := Lib.hid (show Y = sAb (zs.take (i + 1)) by rw [HT.out, hY, ← HX.out])
      rw [← hY]
      clear hY
      rw [show wv Y = .agg #[.bool (decide (Y < 0)), .string (bstr Y.natAbs)] from rfl]
      replace HG := Lib.hid (HG.out.trans hg5)
      replace HB := Lib.hid (HB.out.gr hg5)
      replace HR := Lib.hid (HR.out.gr hg5)
      clear hg5 b0 b1
      obtain ⟨b0, b1⟩ := HB.out.p2
      have f0 := HB.out.frozen 0
      have f1 := HB.out.frozen 1
      go_wp2_with fail
      go_roundw
      case rel => exact ⟨i + 1, Y, by go_num, by omega, HYT.out, (show Blk _ _ _ #[.bool (decide (Y < 0)), .string (bstr Y.natAbs)] from (HB.out.set 0 (.bool (decide (Y < 0)))).set 1 (.string (bstr Y.natAbs))), (HR.out.other (by omega) _).other (by omega) _, (HG.out.setCell (p := ⟨w.heap.size + 1, 0, none⟩) (by simp) _).setCell (p := ⟨w.heap.size + 1, 1, none⟩) (by simp) _⟩
      case measure => simp [intOf]; omega
    · obtain rfl : i = n := by omega
      have i1 : ¬ (i : Int) < (i : Int) := by omega
      obtain ⟨b0, b1⟩ := HB.out.p2
      obtain ⟨r0, r1⟩ := HR.out.p2
      have f0 := HR.out.frozen 0
      have f1 := HR.out.frozen 1
      have HXX := Lib.hid (show X = sAb zs by rw [HX.out, HN.out, List.take_length])
      go_wp2_with fail
      have hr := (HR.out.set 0 (.bool (decide (X < 0)))).set 1 (.string (bstr X.natAbs))
      obtain ⟨e0, e1⟩ := (show Blk _ _ _ #[.bool (decide (X < 0)), .string (bstr X.natAbs)] from hr).p2
      refine bodyPost_ret (v := .agg #[.bool (decide (X < 0)), .string (bstr X.natAbs)]) (by simp [results, Tryz.results42, go_sem, e0, e1]) rfl ?_
      exact ⟨by rw [← HXX.out]; rfl, (HG.out.setCell (p := ⟨w.heap.size, 0, none⟩) (Nat.le_refl _) _).setCell (p := ⟨w.heap.size, 1, none⟩) (Nat.le_refl _) _⟩
end Go.Proofs.YtlfiakpmnkhcdaaGreat.Mo
