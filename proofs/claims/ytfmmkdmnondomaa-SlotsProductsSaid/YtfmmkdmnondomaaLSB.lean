import Derived.Test.YtfmmkdmnondomaaLSA
import Derived.Test.YtfmmkdmnondomaaLFD
import Derived.BigRegion
import Derived.Deep.RegionHeld3
/- Package slots: slots in memory, and New. -/
namespace Go.Proofs.Ytfmmkdmnondomaa
open Go.RowKit
set_option linter.unusedVariables false

/-- The cells of slots. -/
def slcells (p q n : Int) (r : Int) (P : List Int) (s : Int) (O : List Int) (v : Value) : Array Value := (Value.int .u32 p :: Value.int .i64 r :: Value.int .u32 q :: Value.int .i64 n :: (P.map (Value.int .u32 ·) ++ (Value.int .u32 s :: (O.map (Value.int .i64 ·) ++ [v])))).toArray
theorem zero_slots (w : World) : (zeroValue 49).run Try.prog w = .ok (.agg (slcells 0 0 0 0 (List.replicate 64 0) 0 (List.replicate 32 0) (.pointer none))) w := by kernel_rfl
section
variable (p q n r : Int) (P : List Int) (s : Int) (O : List Int) (v : Value)
theorem slcells_size : (slcells p q n r P s O v).size = P.length + O.length + 6 := by simp [slcells]; omega
theorem slcells_0 : (slcells p q n r P s O v)[0]? = some (.int .u32 p) := rfl
theorem slcells_1 : (slcells p q n r P s O v)[1]? = some (.int .i64 r) := rfl
theorem slcells_2 : (slcells p q n r P s O v)[2]? = some (.int .u32 q) := rfl
theorem slcells_3 : (slcells p q n r P s O v)[3]? = some (.int .i64 n) := rfl
theorem slcells_P (k : Nat) (h : k < P.length) : (slcells p q n r P s O v)[4 + k]? = some (.int .u32 (Op.cf P k)) := by
  rw [← Op.cf_at]
  simp only [slcells, List.getElem?_toArray, show 4 + k = k + 1 + 1 + 1 + 1 by omega, List.getElem?_cons_succ]
  rw [List.getElem?_append_left (by simpa using h)]
  simp [h]
theorem slcells_s (h : P.length = 64) : (slcells p q n r P s O v)[68]? = some (.int .u32 s) := by
  simp only [slcells, List.getElem?_toArray, show 68 = 64 + 1 + 1 + 1 + 1 by omega, List.getElem?_cons_succ]
  rw [List.getElem?_append_right (by simp [h])]
  simp [h]
theorem slcells_O (k : Nat) (h : P.length = 64) (hk : k < O.length) : (slcells p q n r P s O v)[69 + k]? = some (.int .i64 (Op.cf O k)) := by
  rw [← Op.cf_at]
  simp only [slcells, List.getElem?_toArray, show 69 + k = 65 + k + 1 + 1 + 1 + 1 by omega, List.getElem?_cons_succ]
  rw [List.getElem?_append_right (by simp [h]; omega)]
  simp only [List.length_map, h, show 65 + k - 64 = k + 1 by omega, List.getElem?_cons_succ]
  rw [List.getElem?_append_left (by simpa using hk)]
  simp [hk]
theorem slcells_v (h : P.length = 64) (ho : O.length = 32) : (slcells p q n r P s O v)[101]? = some v := by
  simp only [slcells, List.getElem?_toArray, show 101 = 97 + 1 + 1 + 1 + 1 by omega, List.getElem?_cons_succ]
  rw [List.getElem?_append_right (by simp [h])]
  simp only [List.length_map, h, show 97 - 64 = 32 + 1 by omega, List.getElem?_cons_succ]
  rw [List.getElem?_append_right (by simp [ho])]
  simp [ho]
theorem slcells_setP (x : Int) (k : Nat) (h : k < P.length) : (slcells p q n r P s O v).setIfInBounds (4 + k) (.int .u32 x) = slcells p q n r (P.set k x) s O v := by
  simp only [slcells, List.setIfInBounds_toArray, show 4 + k = k + 1 + 1 + 1 + 1 by omega, List.set_cons_succ]
  rw [List.set_append_left _ _ (by simpa using h), List.map_set]
theorem slcells_setS (x : Int) (h : P.length = 64) : (slcells p q n r P s O v).setIfInBounds 68 (.int .u32 x) = slcells p q n r P x O v := by
  simp only [slcells, List.setIfInBounds_toArray, show 68 = 64 + 1 + 1 + 1 + 1 by omega, List.set_cons_succ]
  rw [List.set_append_right _ _ (by simp [h])]
  simp [h]
theorem slcells_setO (x : Int) (k : Nat) (h : P.length = 64) (hk : k < O.length) : (slcells p q n r P s O v).setIfInBounds (69 + k) (.int .i64 x) = slcells p q n r P s (O.set k x) v := by
  simp only [slcells, List.setIfInBounds_toArray, show 69 + k = 65 + k + 1 + 1 + 1 + 1 by omega, List.set_cons_succ]
  rw [List.set_append_right _ _ (by simp [h]; omega)]
  simp only [List.length_map, h, show 65 + k - 64 = k + 1 by omega, List.set_cons_succ]
  rw [List.set_append_left _ _ (by simpa using hk), List.map_set]
theorem slcells_setV (u : Value) (h : P.length = 64) (ho : O.length = 32) : (slcells p q n r P s O v).setIfInBounds 101 u = slcells p q n r P s O u := by
  simp only [slcells, List.setIfInBounds_toArray, show 101 = 97 + 1 + 1 + 1 + 1 by omega, List.set_cons_succ]
  rw [List.set_append_right _ _ (by simp [h])]
  simp only [List.length_map, h, show 97 - 64 = 32 + 1 by omega, List.set_cons_succ]
  rw [List.set_append_right _ _ (by simp [ho])]
  simp [ho]
end

/-- The numbers of slots. -/
structure SN (n p r q x s : Nat) : Prop where
  rt : Os.Rt n p q x
  pl : PlP p
  hq : q = p ^ r
  hr : 1 ≤ r
  le : q ≤ 2147483647
  xlt : x < q
  inv : IsInv n q s
  root : RtR n p r x 0
theorem SN.dims {n p r q x s : Nat} (h : SN n p r q x s) : 4 ≤ n ∧ n ≤ 32 ∧ 2 < p ∧ p ≤ 65535 ∧ 2 < q ∧ q ≤ 2147483647 ∧ x < q ∧ s < q := by
  have h1 := h.rt.dim.le
  have h2 := h.pl
  have h3 := h.rt.pos
  have h4 := h.inv.2.1
  exact ⟨h1.1, h1.2, h2.1, by have := h2.2.1; omega, h3, h.le, h.xlt, by omega⟩
/-- A place that holds slots. -/
structure IsSl (W : World) (T n p r q x s : Nat) : Prop where
  p0 : W.cell? ⟨T, 0, none⟩ = some (.int .u32 p)
  r1 : W.cell? ⟨T, 1, none⟩ = some (.int .i64 r)
  q2 : W.cell? ⟨T, 2, none⟩ = some (.int .u32 q)
  n3 : W.cell? ⟨T, 3, none⟩ = some (.int .i64 n)
  pw : ∀ k, k < 2 * n → W.cell? ⟨T, 4 + k, none⟩ = some (.int .u32 ((x ^ k % q : Nat) : Int))
  sh : W.cell? ⟨T, 68, none⟩ = some (.int .u32 s)
  ex : ∀ k, k < n → W.cell? ⟨T, 69 + k, none⟩ = some (.int .i64 (Os.Ex n k))
  it : W.cell? ⟨T, 101, none⟩ = some (.pointer (some ⟨T, 0, none⟩))
theorem IsSl.later {W W' : World} {T n p r q x s : Nat} (h : IsSl W T n p r q x s) (g : Gr W W') : IsSl W' T n p r q x s :=
  ⟨g.keeps h.p0, g.keeps h.r1, g.keeps h.q2, g.keeps h.n3, fun k hk => g.keeps (h.pw k hk), g.keeps h.sh, fun k hk => g.keeps (h.ex k hk), g.keeps h.it⟩
/-- No slots: nil, or a zero value. -/
def NoSl (W : World) (v : Value) : Prop := v = .pointer none ∨ ∃ S, v = .pointer (some ⟨S, 0, none⟩) ∧ W.cell? ⟨S, 101, none⟩ = some (.pointer none)
theorem NoSl.later {W W' : World} {v : Value} (h : NoSl W v) (g : Gr W W') : NoSl W' v := by
  rcases h with rfl | ⟨S, rfl, h1⟩
  · exact .inl rfl
  · exact .inr ⟨S, rfl, g.keeps h1⟩

/-- A dimension, a prime and an exponent that fit. -/
def Fits (n : Int) (p : Nat) (r : Int) : Prop := (n = 4 ∨ n = 8 ∨ n = 16 ∨ n = 32) ∧ MdOk p r ∧ p % (2 * n.toNat) = 1
/-- What New returns. -/
def NewS (n : Int) (p : Nat) (r : Int) (w : World) (e : Ending) (w' : World) : Prop :=
  Gr w w' ∧ ((∃ m k q x s T : Nat, n = m ∧ r = k ∧ SN m p k q x s ∧ e = .returned (.tuple #[.pointer (some ⟨T, 0, none⟩), .int .i64 0]) ∧ IsSl w' T m p k q x s ∧ w.heap.size ≤ T) ∨ (¬ Fits n p r ∧ e = .returned (.tuple #[.pointer none, .int .i64 2])))
theorem SN.fits {n p r q x s : Nat} (h : SN n p r q x s) : Fits n p r := by
  have hd := h.rt.dim
  unfold Os.D4 at hd
  rcases h.root with ⟨_, _, h3⟩ | ⟨_, _, _, h3⟩ | ⟨⟨_, h1⟩, h2, _⟩
  · omega
  · omega
  · exact ⟨by omega, h1, h2⟩
theorem Blk.sl {W : World} {T n p r q x s : Nat} {P O : List Int} (h : Blk 49 W T (slcells p q n r P s O (.pointer (some ⟨T, 0, none⟩)))) (hP : P.length = 64) (hO : O.length = 32) (hn : n ≤ 32)
    (hp : ∀ k, k < 2 * n → Op.cf P k = ((x ^ k % q : Nat) : Int)) (ho : ∀ k, k < n → Op.cf O k = Os.Ex n k) : IsSl W T n p r q x s :=
  ⟨by rw [h.cell, slcells_0], by rw [h.cell, slcells_1], by rw [h.cell, slcells_2], by rw [h.cell, slcells_3], fun k hk => by rw [h.cell, slcells_P _ _ _ _ _ _ _ _ _ (by omega), hp k hk],
    by rw [h.cell, slcells_s _ _ _ _ _ _ _ _ hP], fun k hk => by rw [h.cell, slcells_O _ _ _ _ _ _ _ _ _ hP (by omega), ho k hk], by rw [h.cell, slcells_v _ _ _ _ _ _ _ _ hP hO]⟩
/-- What the root gives. -/
theorem root_sn {n p r x : Nat} (hd : Os.D4 n) (h : RtR n p r x 0) : Os.Rt n p (p ^ r) x ∧ PlP p ∧ 1 ≤ r ∧ p ^ r ≤ 2147483647 ∧ x < p ^ r ∧ n < p ^ r := by
  rcases id h with ⟨_, _, h3⟩ | ⟨_, _, _, h3⟩ | ⟨⟨_, h1⟩, h2, _, y, h3, h4⟩
  · omega
  · omega
  obtain ⟨h5, h6, h7⟩ := id h1
  rw [Int.toNat_natCast] at h7
  have hr : 1 ≤ r := by omega
  have hp2 := h5.1
  have hpr := h5.2.2
  rw [show (n : Int).toNat = n from Int.toNat_natCast n] at h3 h4
  rcases h4 with ⟨k1, _⟩ | ⟨_, k1, _⟩ | ⟨_, _, k1, _⟩ | ⟨_, _, k1, _, k2, k3, k4⟩
  · exact absurd ⟨h1, h3.1⟩ k1
  · rw [Oq.xn_len] at k1; have := hd.le; omega
  · exact absurd ⟨h3.2.1, h3.2.1.simple hd.mem hpr hp2⟩ k1
  rw [Int.toNat_natCast] at k2 k4
  have hx : Oh7.IsR n p x := by
    have hpp : (p : Int) ∣ (p : Int) ^ r := by have := pow_dvd_pow' (p : Int) hr; rwa [Int.pow_succ, Int.pow_zero, Int.one_mul] at this
    exact Int.dvd_trans hpp k4
  have hnq : n < p ^ r := by
    rw [show (n : Int).toNat = n from Int.toNat_natCast n] at h2
    have h8 := Nat.mod_add_div p (2 * n)
    have h9 : p ^ 1 ≤ p ^ r := Nat.pow_le_pow_right (by omega) hr
    rw [Nat.pow_one] at h9
    rw [h2] at h8
    rcases Nat.eq_zero_or_pos (p / (2 * n)) with h10 | h10
    · rw [h10] at h8; omega
    · have h11 : 2 * n * 1 ≤ 2 * n * (p / (2 * n)) := Nat.mul_le_mul_left _ h10
      omega
  refine ⟨⟨hpr, hp2, hd, ⟨r, hr, rfl⟩, ?_, hx.ord hd.mem hp2⟩, h5, hr, h7, k2, hnq⟩
  show ((p ^ r : Nat) : Int) ∣ (x : Int) ^ n - -1
  rw [Oh7.ev_xn] at k4
  rw [Int.natCast_pow]
  have e : (x : Int) ^ n - -1 = 1 + (x : Int) ^ n := by omega
  rw [e]; exact k4
theorem pow_next {psi q k : Nat} : psi ^ k % q * psi % q = psi ^ (k + 1) % q := by
  rw [Nat.pow_succ, Nat.mul_mod, Nat.mod_mod, ← Nat.mul_mod]
theorem n_coprime {n p r : Nat} (hd : Os.D4 n) (hp : Ob.Pr p) (h2 : 2 < p) : Nat.gcd n (p ^ r) = 1 := by
  have h1 : Nat.Coprime p n := hp.coprime (fun hdv => by
    have := Oh7.pr_two hd.mem hp (Nat.dvd_trans hdv ⟨2, by omega⟩)
    omega)
  exact Nat.Coprime.pow_right r (Nat.Coprime.symm h1)
end Go.Proofs.Ytfmmkdmnondomaa
/- Package slots: New. -/
namespace Go.Proofs.Ytfmmkdmnondomaa
open Go.RowKit
set_option linter.unusedVariables false

theorem sdim_any (n : Int) (w : World) : Calls Try.prog 45 #[.int .i64 n] w (fun e w' => e = .returned (.bool (decide (n = 4 ∨ n = 8 ∨ n = 16 ∨ n = 32))) ∧ w = w') := by
  by_cases h : n = 4 ∨ n = 8 ∨ n = 16 ∨ n = 32
  · rw [decide_eq_true h]
    rcases h with rfl | rfl | rfl | rfl
    all_goals
      go_enter Try.func45, Try.ntmps45
      go_wp2_with fail
      go_ret
      exact ⟨rfl, rfl⟩
  · rw [decide_eq_false h]
    have b2 : (n == 4) = false := by simp; omega
    have b3 : (n == 8) = false := by simp; omega
    have b4 : (n == 16) = false := by simp; omega
    have b5 : (n == 32) = false := by simp; omega
    clear h
    go_enter Try.func45, Try.ntmps45
    go_wp2_with fail
    go_ret
    exact ⟨rfl, rfl⟩

set_option maxRecDepth 100000 in
set_option maxHeartbeats 4000000 in
theorem snew_dims (n p : Nat) (r : Int) (w : World) (hd : Os.D4 n) (hp : p ≤ 4294967295) (hr : -9223372036854775808 ≤ r ∧ r ≤ 9223372036854775807) :
    Calls Try.prog 26 #[.int .i64 n, .int .u32 p, .int .i64 r] w (NewS n p r w) := by
  have hd' := hd
  unfold Os.D4 at hd'
  have HDD := Lib.hid hd
  have HD := Lib.hid (show ((n : Int) = 4 ∨ (n : Int) = 8 ∨ (n : Int) = 16 ∨ (n : Int) = 32) by omega)
  have HR := Lib.hid hr
  have h2 : 4 ≤ n := by omega
  have h3 : n ≤ 32 := by omega
  have HH := Lib.hid (show n / 2 + n / 2 = n by omega)
  obtain ⟨h, hh⟩ : ∃ h, h = n / 2 := ⟨_, rfl⟩
  have HHH := Lib.hid hh
  have hh2 : (n : Int) / 2 = (h : Int) := by omega
  have hh3 : 2 * h = n := by omega
  have hh4 : h + h ≤ 32 := by omega
  have HN2 := Lib.hid hh3
  clear hh hh3
  clear hd hd' hr
  have hz := zero_slots
  obtain ⟨Z, hZ⟩ : ∃ Z, Z = slcells 0 0 0 0 (List.replicate 64 0) 0 (List.replicate 32 0) (.pointer none) := ⟨_, rfl⟩
  have hsz : Z.size = 102 := by rw [hZ, slcells_size]; rfl
  obtain ⟨L0, hL0⟩ : ∃ L0 : List Int, L0 = List.replicate 64 0 := ⟨_, rfl⟩
  obtain ⟨O0, hO0⟩ : ∃ O0 : List Int, O0 = List.replicate 32 0 := ⟨_, rfl⟩
  have HC := Lib.hid (show ∀ a b c d : Value, (((Z.setIfInBounds 0 a).setIfInBounds 1 b).setIfInBounds 2 c).setIfInBounds 3 d = (a :: b :: c :: d :: (L0.map (Value.int .u32 ·) ++ (Value.int .u32 0 :: (O0.map (Value.int .i64 ·) ++ [Value.pointer none])))).toArray from fun a b c d => by rw [hZ, hL0, hO0]; simp [slcells])
  have HL0 := Lib.hid (show L0.length = 64 by rw [hL0]; simp)
  have HO0 := Lib.hid (show O0.length = 32 by rw [hO0]; simp)
  clear hL0 hO0
  rw [← hZ] at hz
  have hne : ¬ Z = #[] := fun e => by rw [e] at hsz; simp at hsz
  have hsz2 : ¬ Z.size < 2 := by omega
  clear hZ
  go_enter Try.func26, Try.ntmps26
  go_wp2_with fail
  refine (sdim_any _ _).mono ?_
  rintro e w1 ⟨rfl, rfl⟩
  rw [decide_eq_true HD.out]
  go_wp2_with fail
  refine (froot_any (n : Int) p r _ (by omega) hp HR.out).mono ?_
  rintro e w1 ⟨x, E, rfl, hres, hg⟩
  have HG := Lib.hid hg
  clear hg
  by_cases hc : E = 0
  · subst hc
    obtain ⟨rn, rfl⟩ := Int.eq_ofNat_of_zero_le (show 0 ≤ r by
      rcases hres with ⟨_, _, h⟩ | ⟨_, _, _, h⟩ | ⟨⟨_, h⟩, _⟩
      · omega
      · omega
      · have := h.2.1; omega)
    have HRT := Lib.hid (root_sn HDD.out hres)
    have HRES := Lib.hid hres
    obtain ⟨q, hq⟩ : ∃ q, q = p ^ rn := ⟨_, rfl⟩
    obtain ⟨k1, k2, k3, k4, k5, k6⟩ := root_sn HDD.out hres
    rw [← hq] at k1 k4 k5 k6
    have HQ := Lib.hid hq
    have HK := Lib.hid k1
    have HPL := Lib.hid k2
    have hp2 := k2.1
    have hp3 := k2.2.1
    have hq2 := k1.pos
    have HGC := Lib.hid (show Nat.gcd n q = 1 by rw [hq]; exact n_coprime HDD.out k2.2.2 k2.1)
    clear k1 k2 hq hres
    go_wp2_with fail
    refine (raise_any p rn q _ (by omega) HQ.out k4).mono ?_
    rintro e w2 ⟨rfl, hg⟩
    have HG2 := Lib.hid (HG.out.trans hg)
    clear hg
    go_wp2_with fail
    rw [HC.out]
    clear hz hne hsz2 hsz
    have HQQ := Lib.hid (show 1 ≤ (q : Int) ∧ (q : Int) ≤ 2147483647 by omega)
    go_loopw [11, 12, 35] (fun a _ t wr => ∃ (k : Nat) (P : List Int) (y : Nat), t = .int .i64 k ∧ k ≤ 2 * n ∧ a = .int .u32 y ∧ y = x ^ k % q ∧ P.length = 64 ∧ (∀ j, j < k → Op.cf P j = ((x ^ j % q : Nat) : Int)) ∧ Blk 49 wr w2.heap.size (slcells p q n rn P 0 O0 (.pointer none)) ∧ Gr w2 wr) (fun _ _ t _ => 2 * n - (intOf t).toNat)
    case atStart => exact ⟨0, L0, 1, rfl, by omega, rfl, by rw [Nat.pow_zero, Nat.mod_eq_of_lt (by omega)], HL0.out, fun j hj => by omega, Blk.new _ w2 _, Gr.new w2 _⟩
    case round =>
      obtain ⟨k, P, y, rfl, hk, rfl, hy, hP, hval, htb, hg⟩ := hrel
      have hyq : y < q := by rw [hy]; exact Nat.mod_lt _ (by omega)
      have HY := Lib.hid hy
      have HP := Lib.hid hP
      have HV := Lib.hid hval
      have HT := Lib.hid htb
      have HG3 := Lib.hid hg
      clear hy hP hval htb hg
      by_cases hlt : k < 2 * n
      · have i1 : (k : Int) < 2 * (n : Int) := by omega
        have hc1 := HT.out.cell (4 + k)
        rw [slcells_P _ _ _ _ _ _ _ _ k (by rw [HP.out]; omega)] at hc1
        have hf1 := HT.out.frozen (4 + k)
        have HT2 := Lib.hid (HT.out.set (4 + k) (.int .u32 y))
        rw [slcells_setP _ _ _ _ _ _ _ _ _ k (by rw [HP.out]; omega)] at HT2
        have HG4 := Lib.hid (HG3.out.setCell (p := ⟨w2.heap.size, 4 + k, none⟩) (Nat.le_refl _) (.int .u32 y))
        have m0 := HT2.out.cell 0
        have m1 := HT2.out.cell 1
        have m2 := HT2.out.cell 2
        rw [slcells_0] at m0
        rw [slcells_1] at m1
        rw [slcells_2] at m2
        go_wp2_with fail
        refine (splus_any p rn q 0 y x _ HQQ.out (by omega) (by omega) (by omega)).mono ?_
        rintro e w3 ⟨rfl, hg⟩
        rw [Int.zero_add, show (y : Int) * (x : Int) % (q : Int) = ((y * x % q : Nat) : Int) by simp]
        have HYN := Lib.hid (show y * x % q = x ^ (k + 1) % q from by rw [HY.out]; exact pow_next)
        have HL := Lib.hid (show y * x % q < q from Nat.mod_lt _ (by omega))
        have HT3 := Lib.hid (HT2.out.later hg)
        have HG5 := Lib.hid (HG4.out.trans hg)
        clear hg
        go_wp2_with fail
        go_roundw
        case rel => exact ⟨k + 1, P.set k y, y * x % q, by go_num, by omega, rfl, HYN.out, by rw [List.length_set]; exact HP.out, fun j hj => by
          rw [cf_set P _ k j (by rw [HP.out]; omega)]
          by_cases e : j = k
          · rw [if_pos e, e, HY.out]
          · rw [if_neg e]; exact HV.out j (by omega), HT3.out, HG5.out⟩
        case measure => simp [intOf]; omega
      · obtain rfl : k = 2 * n := by omega
        have i1 : ¬ ((2 * n : Nat) : Int) < 2 * (n : Int) := by omega
        have hc1 := HT.out.cell 68
        rw [slcells_s _ _ _ _ _ _ _ _ HP.out] at hc1
        have m2 := HT.out.cell 2
        rw [slcells_2] at m2
        have hf1 := HT.out.frozen 68
        go_wp2_with fail
        refine (inverse_ok n q _ (by omega) k4 k6 HGC.out).mono ?_
        rintro e w3 ⟨b, ⟨rfl, hg⟩, hb⟩
        obtain ⟨s, rfl⟩ : ∃ s : Nat, b = s := ⟨b.toNat, by have := hb.1; omega⟩
        have HB := Lib.hid hb
        have HT2 := Lib.hid (HT.out.later hg)
        have HG4 := Lib.hid (HG3.out.trans hg)
        have hc1 := hg.keeps hc1
        have hf1 := HT2.out.frozen 68
        have HT3 := Lib.hid (HT2.out.set 68 (.int .u32 s))
        rw [slcells_setS _ _ _ _ _ _ _ _ _ HP.out] at HT3
        have HG5 := Lib.hid (HG4.out.setCell (p := ⟨w2.heap.size, 68, none⟩) (Nat.le_refl _) (.int .u32 s))
        clear hg hb
        go_wp2_with fail
        obtain ⟨W3, hW3⟩ : ∃ W3, W3 = w3.setCell ⟨w2.heap.size, 68, none⟩ (.int .u32 s) := ⟨_, rfl⟩
        rw [← hW3] at HT3 HG5 ⊢
        clear hc1 hf1 m2 hW3
        go_loopw [13, 14, 68] (fun a _ t wr => ∃ (j : Nat) (O : List Int), t = .int .i64 j ∧ j ≤ h ∧ a = .int .i64 ((3 ^ j % (2 * n) : Nat) : Int) ∧ O.length = 32 ∧ (∀ i, i < j → Op.cf O i = Os.Ex n i ∧ Op.cf O (h + i) = Os.Ex n (h + i)) ∧ Blk 49 wr w2.heap.size (slcells p q n rn P s O (.pointer none)) ∧ Gr w2 wr) (fun _ _ t _ => h - (intOf t).toNat)
        case atStart => exact ⟨0, O0, rfl, by omega, by rw [Nat.pow_zero, Nat.mod_eq_of_lt (by omega)]; rfl, HO0.out, fun i hi => by omega, HT3.out, HG5.out⟩
        case round =>
          obtain ⟨j, O, rfl, hj, rfl, hO, hval, htb, hg⟩ := hrel
          have HO := Lib.hid hO
          have HVO := Lib.hid hval
          have HT4 := Lib.hid htb
          have HG6 := Lib.hid hg
          obtain ⟨E, hE⟩ : ∃ E : Nat, E = 3 ^ j % (2 * n) := ⟨_, rfl⟩
          have hE2 : E < 2 * n := by rw [hE]; exact Nat.mod_lt _ (by omega)
          have HE := Lib.hid hE
          rw [← hE]
          clear hO hval htb hg hE
          by_cases hlt : j < h
          · have i1 : (j : Int) < (h : Int) := by omega
            have hc1 := HT4.out.cell (69 + j)
            rw [slcells_O _ _ _ _ _ _ _ _ j HP.out (by rw [HO.out]; omega)] at hc1
            have hf1 := HT4.out.frozen (69 + j)
            have HT5 := Lib.hid (HT4.out.set (69 + j) (.int .i64 E))
            rw [slcells_setO _ _ _ _ _ _ _ _ _ j HP.out (by rw [HO.out]; omega)] at HT5
            have hc2 := HT5.out.cell (69 + (h + j))
            rw [slcells_O _ _ _ _ _ _ _ _ (h + j) HP.out (by rw [List.length_set, HO.out]; omega)] at hc2
            have hf2 := HT5.out.frozen (69 + (h + j))
            have HT6 := Lib.hid (HT5.out.set (69 + (h + j)) (.int .i64 (2 * (n : Int) - E)))
            rw [slcells_setO _ _ _ _ _ _ _ _ _ (h + j) HP.out (by rw [List.length_set, HO.out]; omega)] at HT6
            go_wp2_with fail
            go_region
            go_wp2_with fail
            have HN := Lib.hid (show ((O.set j (E : Int)).set (h + j) (2 * (n : Int) - E)).length = 32 by rw [List.length_set, List.length_set]; exact HO.out)
            have HGE := Lib.hid (show Gr w2 (((wr.setCell ⟨w2.heap.size, 69 + j, none⟩ (.int .i64 E)).setCell ⟨w2.heap.size, 69 + (h + j), none⟩ (.int .i64 (2 * (n : Int) - E))).drew) from ((HG6.out.setCell (p := ⟨w2.heap.size, 69 + j, none⟩) (Nat.le_refl _) _).setCell (p := ⟨w2.heap.size, 69 + (h + j), none⟩) (Nat.le_refl _) _).drewN 1)
            have HEX1 := Lib.hid (show (E : Int) = (Os.Ex n j : Nat) from by rw [Os.Ex.lo (by rw [← HHH.out]; exact hlt), HE.out])
            have HEX2 := Lib.hid (show 2 * (n : Int) - E = (Os.Ex n (h + j) : Nat) from by rw [HHH.out, Os.Ex.hi, ← HE.out]; omega)
            go_roundw
            case rel =>
              refine ⟨j + 1, _, by go_num, by omega, ?_, HN.out, fun i hi => ?_, HT6.out, HGE.out⟩
              · have e := Os.Ex.next (n := n) (k := j) HDD.out
                rw [← HE.out] at e
                rw [← e]; simp
              · have c1 : ∀ t, Op.cf ((O.set j (E : Int)).set (h + j) (2 * (n : Int) - E)) t = if t = h + j then 2 * (n : Int) - E else if t = j then (E : Int) else Op.cf O t := fun t => by
                  rw [cf_set _ _ _ t (by rw [List.length_set, HO.out]; omega), cf_set _ _ _ t (by rw [HO.out]; omega)]
                rw [c1, c1]
                by_cases e : i = j
                · subst e
                  rw [if_neg (by omega), if_pos rfl, if_pos rfl]
                  exact ⟨HEX1.out, HEX2.out⟩
                · rw [if_neg (by omega), if_neg e, if_neg (by omega), if_neg (by omega)]
                  exact HVO.out i (by omega)
            case measure => simp [intOf]; omega
          · obtain rfl : j = h := by omega
            have i1 : ¬ (j : Int) < (j : Int) := by omega
            have hc1 := HT4.out.cell 101
            rw [slcells_v _ _ _ _ _ _ _ _ HP.out HO.out] at hc1
            have hf1 := HT4.out.frozen 101
            have HT5 := Lib.hid (HT4.out.set 101 (.pointer (some ⟨w2.heap.size, 0, none⟩)))
            rw [slcells_setV _ _ _ _ _ _ _ _ _ HP.out HO.out] at HT5
            have HOX := Lib.hid (show ∀ i, i < n → Op.cf O i = Os.Ex n i from fun i hi => by
              by_cases e : i < j
              · exact (HVO.out i e).1
              · have h1 := (HVO.out (i - j) (by have := HN2.out; omega)).2
                rwa [show j + (i - j) = i by omega] at h1)
            have HGF := Lib.hid (HG2.out.trans (HG6.out.setCell (p := ⟨w2.heap.size, 101, none⟩) (Nat.le_refl _) (.pointer (some ⟨w2.heap.size, 0, none⟩))))
            have HLE := Lib.hid (show w.heap.size ≤ w2.heap.size from HG2.out.size)
            go_wp2_with fail
            go_ret2
            exact ⟨HGF.out, .inl ⟨n, rn, q, x, s, w2.heap.size, rfl, rfl, ⟨HK.out, HPL.out, HQ.out, k3, k4, k5, HB.out, HRES.out⟩, rfl, HT5.out.sl HP.out HO.out h3 HV.out HOX.out, HLE.out⟩⟩
  · have HNO := Lib.hid (show ¬ Fits n p r from fun ⟨f1, f2, f3⟩ => by
      rcases hres with ⟨h, _⟩ | ⟨_, h, _⟩ | ⟨_, _, h, _⟩
      · exact h ⟨by unfold DimI; omega, f2⟩
      · exact h f3
      · exact hc h)
    have hcb : (E != 0) = true := by simpa using hc
    clear hc hres
    go_wp2_with fail
    go_ret2
    exact ⟨HG.out, .inr ⟨HNO.out, rfl⟩⟩

set_option maxRecDepth 100000 in
set_option maxHeartbeats 2000000 in
theorem snew_dim (n : Int) (p : Nat) (r : Int) (w : World) (hd : ¬ (n = 4 ∨ n = 8 ∨ n = 16 ∨ n = 32)) :
    Calls Try.prog 26 #[.int .i64 n, .int .u32 p, .int .i64 r] w (NewS n p r w) := by
  have HD := Lib.hid hd
  have HNO := Lib.hid (show ¬ Fits n p r from fun ⟨h, _⟩ => hd h)
  clear hd
  go_enter Try.func26, Try.ntmps26
  go_wp2_with fail
  refine (sdim_any _ _).mono ?_
  rintro e w1 ⟨rfl, rfl⟩
  rw [decide_eq_false HD.out]
  go_wp2_with fail
  go_ret2
  exact ⟨Gr.refl w, .inr ⟨HNO.out, rfl⟩⟩
theorem snew_any (n : Int) (p : Nat) (r : Int) (w : World) (hp : p ≤ 4294967295) (hr : -9223372036854775808 ≤ r ∧ r ≤ 9223372036854775807) :
    Calls Try.prog 26 #[.int .i64 n, .int .u32 p, .int .i64 r] w (NewS n p r w) := by
  by_cases h : n = 4 ∨ n = 8 ∨ n = 16 ∨ n = 32
  · obtain ⟨m, rfl⟩ : ∃ m : Nat, n = m := ⟨n.toNat, by omega⟩
    exact snew_dims m p r w (by unfold Os.D4; omega) hp hr
  · exact snew_dim n p r w h
end Go.Proofs.Ytfmmkdmnondomaa
/- Package slots: made, check. -/
namespace Go.Proofs.Ytfmmkdmnondomaa
open Go.RowKit
set_option linter.unusedVariables false

theorem Lo.Row.setAt {W : World} {g : Nat} {l : List Int} (h : Lo.Row W g l) {k : Nat} {x : Int} (hk : k < l.length) (hx : -9223372036854775808 ≤ x ∧ x < 9223372036854775808) : Lo.Row (W.setCell ⟨g, k, none⟩ (.int .i64 x)) g (l.set k x) := by
  obtain ⟨h0, cur, h1, h2, h3⟩ := h
  refine ⟨fun y hy => ?_, _, h1.set k _, by simpa using h2, fun j hj => ?_⟩
  · rcases List.mem_or_eq_of_mem_set hy with h | rfl
    · exact h0 y h
    · exact hx
  · rw [List.length_set] at hj
    rw [Array.getElem?_setIfInBounds, cf_set l x k j hk]
    by_cases e : k = j
    · subst e; rw [if_pos rfl, if_pos rfl, if_pos (by omega)]
    · rw [if_neg e, if_neg (fun h => e h.symm)]; exact h3 j hj
theorem seql_self (w : World) (a : Addr) : (binOp .eql 27 (.pointer (some a)) (.pointer (some a))).run Try.prog w = .ok (.bool true) w := by
  obtain ⟨j, hj⟩ : ∃ j, Try.prog.info? 49 = some j := Option.isSome_iff_exists.1 (by kernel_rfl)
  exact run_eql_ptr_same w a Try.underlying27 hj
set_option maxRecDepth 100000 in
set_option maxHeartbeats 1000000 in
theorem smade_yes (T : Nat) (w : World) (h : w.cell? ⟨T, 101, none⟩ = some (.pointer (some ⟨T, 0, none⟩))) : Calls Try.prog 41 #[.pointer (some ⟨T, 0, none⟩)] w (IsB true w) := by
  have heq := seql_self w ⟨T, 0, none⟩
  go_enter Try.func41, Try.ntmps41
  go_wp2_with fail
  go_ret
  exact ⟨rfl, Gr.refl w⟩
/-- Outside of the bounds. -/
def outB (b v : Int) : Bool := decide (v < -b ∨ b < v)
theorem outB_yes {b v : Int} (h : v < -b ∨ b < v) : outB b v = true := decide_eq_true h
theorem outB_no {b v : Int} (h : ¬ (v < -b ∨ b < v)) : outB b v = false := decide_eq_false h
set_option maxHeartbeats 1000000 in
theorem check1_any (v b : Int) (B : Nat) (w : World) (h : w.cell? ⟨B, 0, none⟩ = some (.int .i64 b)) (hb : 0 ≤ b ∧ b ≤ 2147483647) :
    Calls Try.prog 53 #[.int .i64 v, .pointer (some ⟨B, 0, none⟩)] w (fun e w' => e = .returned (.bool (outB b v)) ∧ w = w') := by
  obtain ⟨b0, b1⟩ := hb
  by_cases h1 : v < -b
  · have HO := Lib.hid (outB_yes (b := b) (v := v) (.inl h1))
    have hd : decide (v < -b) = true := by simpa using h1
    go_enter Try.func53, Try.ntmps53
    go_wp2_with fail
    go_ret
    exact ⟨by rw [HO.out]; rfl, rfl⟩
  · have hd : decide (v < -b) = false := by simpa using h1
    by_cases h2 : b < v
    · have HO := Lib.hid (outB_yes (b := b) (v := v) (.inr h2))
      go_enter Try.func53, Try.ntmps53
      go_wp2_with fail
      go_ret
      exact ⟨by rw [HO.out]; rfl, rfl⟩
    · have HO := Lib.hid (outB_no (b := b) (v := v) (by omega))
      go_enter Try.func53, Try.ntmps53
      go_wp2_with fail
      go_ret
      exact ⟨by rw [HO.out]; rfl, rfl⟩
/-- An index of one that is outside, or none. -/
def IdxP (b : Int) (a : List Int) (w : World) (e : Ending) (w' : World) : Prop := ∃ i : Int, e = .returned (.int .i64 i) ∧ -1 ≤ i ∧ (0 ≤ i ↔ ∃ k, k < a.length ∧ outB b (Op.cf a k) = true) ∧ w = w'
set_option maxRecDepth 100000 in
set_option maxHeartbeats 1000000 in
theorem sindexFunc_any (a : List Int) (v : Value) (b : Int) (B : Nat) (w : World) (h : w.cell? ⟨B, 0, none⟩ = some (.int .i64 b)) (hb : 0 ≤ b ∧ b ≤ 2147483647) (hv : Lo.HasQ w v a) (hl : a.length ≤ 1000000) :
    Calls Try.prog 69 #[v, .func (.func 53) #[] #[.pointer (some ⟨B, 0, none⟩)]] w (IdxP b a w) := by
  obtain ⟨hd, xa, ca, rfl, a1, a2, hc⟩ := hv
  obtain ⟨la, hla⟩ : ∃ la, la = a.length := ⟨_, rfl⟩
  have HC := Lib.hid hc
  have HB := Lib.hid hb
  rw [← hla] at a1 hl ⊢
  have HLA := Lib.hid hla
  clear hla hd hc hb
  go_enter Try.func69, Try.ntmps69
  go_wp2_with fail
  go_loop [5, 8] (fun _ t => ∃ k : Nat, t = .int .i64 k ∧ k ≤ la ∧ ∀ j, j < k → outB b (Op.cf a j) = false) (fun _ t => la - (intOf t).toNat)
  case atStart => exact ⟨0, rfl, by omega, fun j hj => by omega⟩
  case round =>
    obtain ⟨k, rfl, hk, hval⟩ := hrel
    have HV := Lib.hid hval
    clear hval
    by_cases hlt : k < la
    · have i1 : (k : Int) < (la : Int) := by omega
      obtain ⟨g, o, rfl, hcell⟩ := HC.out k (by rw [← HLA.out]; exact hlt)
      obtain ⟨x, hx⟩ : ∃ x, x = Op.cf a k := ⟨_, rfl⟩
      rw [← hx] at hcell
      have HX := Lib.hid hx
      clear hx
      go_wp2_with fail
      refine (check1_any x b B _ h HB.out).mono ?_
      rintro e w1 ⟨rfl, rfl⟩
      cases hob : outB b x with
      | true =>
        have HO := Lib.hid hob
        clear hob
        go_wp2_with fail
        go_ret
        exact ⟨k, rfl, by omega, ⟨fun _ => ⟨k, by rw [← HLA.out]; exact hlt, by rw [← HX.out]; exact HO.out⟩, fun _ => by omega⟩, rfl⟩
      | false =>
        have HO := Lib.hid hob
        clear hob
        go_wp2_with fail
        go_round
        case rel => exact ⟨k + 1, by go_num, by omega, fun j hj => by
          by_cases e : j = k
          · rw [e, ← HX.out]; exact HO.out
          · exact HV.out j (by omega)⟩
        case measure => simp [intOf]; omega
    · obtain rfl : k = la := by omega
      have i1 : ¬ (k : Int) < (k : Int) := by omega
      go_wp2_with fail
      go_ret
      exact ⟨-1, rfl, by omega, ⟨fun h => by omega, fun ⟨j, h1, h2⟩ => by rw [HV.out j (by rw [HLA.out]; exact h1)] at h2; cases h2⟩, rfl⟩
set_option maxHeartbeats 1000000 in
theorem scontains_any (a : List Int) (v : Value) (b : Int) (B : Nat) (w : World) (h : w.cell? ⟨B, 0, none⟩ = some (.int .i64 b)) (hb : 0 ≤ b ∧ b ≤ 2147483647) (hv : Lo.HasQ w v a) (hl : a.length ≤ 1000000) :
    Calls Try.prog 52 #[v, .func (.func 53) #[] #[.pointer (some ⟨B, 0, none⟩)]] w (fun e w' => e = .returned (.bool (a.any (outB b))) ∧ w = w') := by
  have HV := Lib.hid hv
  have HH := Lib.hid h
  obtain ⟨-, xa, ca, rfl, -, -, -⟩ := hv
  obtain ⟨la, hla⟩ : ∃ la, la = a.length := ⟨_, rfl⟩
  rw [← hla] at HV ⊢
  have HL := Lib.hid hl
  clear hla h hl
  go_enter Try.func52, Try.ntmps52
  go_wp2_with fail
  refine (sindexFunc_any a _ b B _ HH.out hb HV.out HL.out).mono ?_
  rintro e w1 ⟨i, rfl, hi1, hi2, rfl⟩
  have HI := Lib.hid hi2
  clear hi2
  by_cases hi : 0 ≤ i
  · have hd : decide (0 ≤ i) = true := by simpa using hi
    have HA := Lib.hid (show a.any (outB b) = true from by
      obtain ⟨k, h1, h2⟩ := HI.out.1 hi
      rw [List.any_eq_true]
      exact ⟨_, Op.cf_mem h1, h2⟩)
    go_wp2_with fail
    go_ret
    exact ⟨by rw [HA.out]; rfl, rfl⟩
  · have hd : decide (0 ≤ i) = false := by simpa using hi
    have HA := Lib.hid (show a.any (outB b) = false from by
      rw [List.any_eq_false]
      intro x hx h2
      obtain ⟨k, h1, rfl⟩ := List.mem_iff_getElem.1 hx
      refine hi (HI.out.2 ⟨k, h1, ?_⟩)
      rw [← Op.cf_at, List.getElem?_eq_getElem h1]; exact h2)
    go_wp2_with fail
    go_ret
    exact ⟨by rw [HA.out]; rfl, rfl⟩

/-- What check asks. -/
def Ckd (n p r : Nat) (E : Int) (l : List Int) : Prop := 1 ≤ E ∧ E ≤ r ∧ Os.Vl n (p ^ E.toNat) l
instance (n p r : Nat) (E : Int) (l : List Int) : Decidable (Ckd n p r E l) := by unfold Ckd; infer_instance
def chkE (n p r : Nat) (E : Int) (l : List Int) : Int := if Ckd n p r E l then 0 else 2
theorem chkE_yes {n p r : Nat} {E : Int} {l : List Int} (h : Ckd n p r E l) : chkE n p r E l = 0 := if_pos h
theorem chkE_no {n p r : Nat} {E : Int} {l : List Int} (h : ¬ Ckd n p r E l) : chkE n p r E l = 2 := if_neg h
theorem odd_pow {p : Nat} (h : p % 2 = 1) : ∀ e, p ^ e % 2 = 1
  | 0 => rfl
  | e + 1 => by rw [Nat.pow_succ, Nat.mul_mod, odd_pow h e, h]
theorem out_vl {n q : Nat} {l : List Int} (hl : l.length = n) (hq : q % 2 = 1) : l.any (outB (((q : Int) - 1) / 2)) = false ↔ Os.Vl n q l := by
  rw [List.any_eq_false]
  have key : ∀ x : Int, ¬ outB (((q : Int) - 1) / 2) x = true ↔ (2 * x < q ∧ -(q : Int) < 2 * x) := fun x => by
    unfold outB
    rw [decide_eq_true_iff]
    omega
  constructor
  · intro h
    refine ⟨hl, fun i hi => (key _).1 (h _ (Op.cf_mem hi))⟩
  · intro h x hx
    obtain ⟨k, h1, rfl⟩ := List.mem_iff_getElem.1 hx
    have := h.2 k h1
    rw [← Op.cf_at, List.getElem?_eq_getElem h1] at this
    exact (key _).2 this

set_option maxRecDepth 100000 in
set_option maxHeartbeats 2000000 in
theorem scheck_any (n p r q x s T : Nat) (E : Int) (l : List Int) (v : Value) (w : World) (hN : SN n p r q x s) (h : IsSl w T n p r q x s) (hv : Lo.HasQ w v l) (hE : -9223372036854775808 ≤ E ∧ E ≤ 9223372036854775807) :
    Calls Try.prog 30 #[.pointer (some ⟨T, 0, none⟩), v, .int .i64 E] w (IsI (chkE n p r E l) w) := by
  obtain ⟨d1, d2, d3, d4, d5, d6, d7, d8⟩ := hN.dims
  have HN := Lib.hid hN
  have HS := Lib.hid h
  have HV := Lib.hid hv
  obtain ⟨-, xa, ca, rfl, a1, a2, -⟩ := hv
  obtain ⟨la, hla⟩ : ∃ la, la = l.length := ⟨_, rfl⟩
  have HLA := Lib.hid hla
  rw [← hla] at HV a1 ⊢
  obtain ⟨E1, E2⟩ := hE
  clear hN h hla
  go_enter Try.func30, Try.ntmps30
  go_wp2_with fail
  refine (smade_yes T _ HS.out.it).mono ?_
  rintro e w1 ⟨rfl, hg⟩
  have HG := Lib.hid hg
  have HS1 := Lib.hid (HS.out.later hg)
  have c1 := HS1.out.r1
  have c3 := HS1.out.n3
  clear hg
  by_cases h1 : E < 1
  · have HC := Lib.hid (chkE_no (n := n) (p := p) (r := r) (E := E) (l := l) (fun h => by have := h.1; omega))
    have b1 : decide (E < 1) = true := by simpa using h1
    go_wp2_with fail
    go_ret
    exact ⟨by rw [HC.out]; rfl, HG.out⟩
  have b1 : decide (E < 1) = false := by simpa using h1
  by_cases h2 : (r : Int) < E
  · have HC := Lib.hid (chkE_no (n := n) (p := p) (r := r) (E := E) (l := l) (fun h => by have := h.2.1; omega))
    have b2 : decide ((r : Int) < E) = true := by simpa using h2
    go_wp2_with fail
    go_ret
    exact ⟨by rw [HC.out]; rfl, HG.out⟩
  have b2 : decide ((r : Int) < E) = false := by simpa using h2
  by_cases h3 : la = n
  · obtain ⟨en, rfl⟩ := Int.eq_ofNat_of_zero_le (show 0 ≤ E by omega)
    obtain ⟨Q, hQ⟩ : ∃ Q, Q = p ^ en := ⟨_, rfl⟩
    have hQ2 : Q ≤ 2147483647 := by
      have h4 := HN.out.le
      rw [HN.out.hq] at h4
      rw [hQ]
      exact Nat.le_trans (Nat.pow_le_pow_right (by omega) (by omega)) h4
    have hQ3 : Q % 2 = 1 := by rw [hQ]; exact odd_pow HN.out.pl.odd en
    have HQ := Lib.hid hQ
    have HOV := Lib.hid (out_vl (n := n) (q := Q) (l := l) (by rw [← HLA.out]; exact h3) hQ3)
    have b3 : ((la : Int) != (n : Int)) = false := by simp [h3]
    have H3 := Lib.hid h3
    have c0 := HS1.out.p0
    have c2 := HS1.out.q2
    clear h3 hQ
    go_wp2_with fail
    refine (sbound_any p q en Q r _ (by omega) HQ.out hQ2).mono ?_
    rintro e w2 ⟨rfl, hg⟩
    have HG2 := Lib.hid (HG.out.trans hg)
    clear hg
    have q1 : 0 ≤ ((Q : Int) - 1) / 2 := by omega
    have q2 : ((Q : Int) - 1) / 2 ≤ 2147483647 := by omega
    obtain ⟨b, hb⟩ : ∃ b, b = ((Q : Int) - 1) / 2 := ⟨_, rfl⟩
    rw [← hb] at q1 q2 HOV ⊢
    clear hb
    go_wp2_with fail
    refine (scontains_any l _ b w2.heap.size _ (by simp [go_sem]) ⟨q1, q2⟩ (HV.out.later (HG2.out.alloc _)) (by rw [← HLA.out]; have := H3.out; omega)).mono ?_
    rintro e w3 ⟨rfl, rfl⟩
    cases hany : l.any (outB b) with
    | true =>
      have HC := Lib.hid (chkE_no (n := n) (p := p) (r := r) (E := (en : Int)) (l := l) (fun h => by
        have h5 := h.2.2
        rw [Int.toNat_natCast, ← HQ.out] at h5
        rw [HOV.out.2 h5] at hany; cases hany))
      clear hany
      go_wp2_with fail
      go_ret
      exact ⟨by rw [HC.out]; rfl, HG2.out.alloc _⟩
    | false =>
      have HC := Lib.hid (chkE_yes (n := n) (p := p) (r := r) (E := (en : Int)) (l := l) ⟨by omega, by omega, by
        rw [Int.toNat_natCast, ← HQ.out]
        exact HOV.out.1 hany⟩)
      clear hany
      go_wp2_with fail
      go_ret
      exact ⟨by rw [HC.out]; rfl, HG2.out.alloc _⟩
  · have HC := Lib.hid (chkE_no (n := n) (p := p) (r := r) (E := E) (l := l) (fun h => h3 (by rw [HLA.out]; exact h.2.2.1)))
    have b3 : ((la : Int) != (n : Int)) = true := by simp; omega
    go_wp2_with fail
    go_ret
    exact ⟨by rw [HC.out]; rfl, HG.out⟩
end Go.Proofs.Ytfmmkdmnondomaa
/- Package slots: sums and reduced. -/
namespace Os
open Op
set_option linter.unusedVariables false
/-- The sums, with exponents. -/
def kn (n q x : Nat) (g : Nat → Nat → Nat) (i k : Nat) : Int := ((x ^ (g i k % (2 * n)) % q : Nat) : Int)
def at_ (n q : Nat) (sc : Int) (h : Nat → Nat → Int) (a : List Int) (k : Nat) : Int := sc * (S n (fun i => cf a i * h i k) % q) % q
def tl (n q : Nat) (sc : Int) (h : Nat → Nat → Int) (a : List Int) : List Int := (List.range n).map (at_ n q sc h a)
theorem tl_len (n q : Nat) (sc : Int) (h : Nat → Nat → Int) (a : List Int) : (tl n q sc h a).length = n := by simp [tl]
theorem cf_tl {n q : Nat} {sc : Int} {h : Nat → Nat → Int} {a : List Int} {k : Nat} (hk : k < n) : cf (tl n q sc h a) k = at_ n q sc h a k := by
  rw [← cf_at]; simp [tl, hk]
theorem tl_ext {n q : Nat} {sc : Int} {h : Nat → Nat → Int} {a l : List Int} (hl : l.length = n) (k : ∀ j, j < n → cf l j = at_ n q sc h a j) : l = tl n q sc h a := by
  apply ext_cf
  · rw [hl, tl_len]
  · intro i
    by_cases hi : i < n
    · rw [k i hi, cf_tl hi]
    · rw [cf_out (by omega), cf_out (by rw [tl_len]; omega)]
theorem S_step (q : Int) (f : Nat → Int) (j : Nat) (z x y : Int) (hz : z = S j f % q) (h : f j = x * y) : (z + x * y) % q = S (j + 1) f % q := by
  rw [hz, Int.emod_add_emod, ← h]; rfl
/-- The exponents of Decode and of Encode. -/
def dg (n i k : Nat) : Nat := Ex n k * i
def eg (n i k : Nat) : Nat := Ex n i * (2 * n - k)
end Os
namespace Go.Proofs.Ytfmmkdmnondomaa
open Go.RowKit
set_option linter.unusedVariables false

set_option maxRecDepth 100000 in
set_option maxHeartbeats 1000000 in
theorem decode1_any (n p r q x s T B i k : Nat) (w : World) (hN : SN n p r q x s) (h : IsSl w T n p r q x s) (hB : w.cell? ⟨B, 0, none⟩ = some (.pointer (some ⟨T, 0, none⟩))) (hi : i < n) (hk : k < n) :
    Calls Try.prog 34 #[.int .i64 i, .int .i64 k, .pointer (some ⟨B, 0, none⟩)] w (IsI (Os.dg n i k : Nat) w) := by
  obtain ⟨d1, d2, d3, d4, d5, d6, d7, d8⟩ := hN.dims
  obtain ⟨o1, o2⟩ := Os.Ex.odd hN.rt.dim hk
  have c1 := h.ex k hk
  have HE := Lib.hid (show ((Os.Ex n k : Nat) : Int) * (i : Int) = (Os.dg n i k : Nat) from by unfold Os.dg; simp)
  obtain ⟨X, hX⟩ : ∃ X, X = Os.Ex n k := ⟨_, rfl⟩
  rw [← hX] at c1 o2 HE
  have m0 := mul_lo (a := (X : Int)) (b := (i : Int)) (by omega) (by omega)
  have m1 : (X : Int) * (i : Int) ≤ 64 * 64 := Int.mul_le_mul (by omega) (by omega) (by omega) (by omega)
  clear hX hN h
  go_enter Try.func34, Try.ntmps34
  go_wp2_with fail
  go_ret
  exact ⟨by rw [← HE.out]; rfl, Gr.refl w⟩
set_option maxRecDepth 100000 in
set_option maxHeartbeats 1000000 in
theorem encode1_any (n p r q x s T B i k : Nat) (w : World) (hN : SN n p r q x s) (h : IsSl w T n p r q x s) (hB : w.cell? ⟨B, 0, none⟩ = some (.pointer (some ⟨T, 0, none⟩))) (hi : i < n) (hk : k < n) :
    Calls Try.prog 32 #[.int .i64 i, .int .i64 k, .pointer (some ⟨B, 0, none⟩)] w (IsI (Os.eg n i k : Nat) w) := by
  obtain ⟨d1, d2, d3, d4, d5, d6, d7, d8⟩ := hN.dims
  obtain ⟨o1, o2⟩ := Os.Ex.odd hN.rt.dim hi
  have c1 := h.ex i hi
  have c2 := h.n3
  have HE := Lib.hid (show ((Os.Ex n i : Nat) : Int) * (2 * (n : Int) - (k : Int)) = (Os.eg n i k : Nat) from by
    unfold Os.eg; rw [Int.natCast_mul, Int.natCast_sub (by omega)]; simp)
  obtain ⟨X, hX⟩ : ∃ X, X = Os.Ex n i := ⟨_, rfl⟩
  rw [← hX] at c1 o2 HE
  have m0 := mul_lo (a := (X : Int)) (b := 2 * (n : Int) - (k : Int)) (by omega) (by omega)
  have m1 : (X : Int) * (2 * (n : Int) - (k : Int)) ≤ 64 * 64 := Int.mul_le_mul (by omega) (by omega) (by omega) (by omega)
  have w1 : IntKind.i64.wrap (2 * (n : Int)) = 2 * (n : Int) := IntWalk.i64_in _ (by omega)
  have w2 : IntKind.i64.wrap (2 * (n : Int) - (k : Int)) = 2 * (n : Int) - (k : Int) := IntWalk.i64_in _ (by omega)
  have w3 : IntKind.i64.wrap ((X : Int) * (2 * (n : Int) - (k : Int))) = (X : Int) * (2 * (n : Int) - (k : Int)) := IntWalk.i64_in _ (by omega)
  have i0 : (0 : Int) ≤ (i : Int) := by omega
  have i1 : (i : Int) < 32 := by omega
  clear hX hN h
  go_enter Try.func32, Try.ntmps32
  go_wp2_with fail
  go_quiet (fail)
  go_wp2_with fail
  go_ret
  exact ⟨by rw [← HE.out]; rfl, (Gr.refl w).drewN _⟩

/-- The function numbers of the exponents. -/
def ExpF (n F : Nat) (g : Nat → Nat → Nat) : Prop := (F = 34 ∧ g = Os.dg n) ∨ (F = 32 ∧ g = Os.eg n)
theorem exp_any (n p r q x s T B F i k : Nat) (g : Nat → Nat → Nat) (w : World) (hF : ExpF n F g) (hN : SN n p r q x s) (h : IsSl w T n p r q x s) (hB : w.cell? ⟨B, 0, none⟩ = some (.pointer (some ⟨T, 0, none⟩))) (hi : i < n) (hk : k < n) :
    Calls Try.prog F #[.int .i64 i, .int .i64 k, .pointer (some ⟨B, 0, none⟩)] w (IsI (g i k : Nat) w) := by
  rcases hF with ⟨rfl, rfl⟩ | ⟨rfl, rfl⟩
  · exact decode1_any n p r q x s T B i k w hN h hB hi hk
  · exact encode1_any n p r q x s T B i k w hN h hB hi hk
theorem ExpF.lt {n F : Nat} {g : Nat → Nat → Nat} (hd : Os.D4 n) (h : ExpF n F g) {i k : Nat} (hi : i < n) (hk : k < n) : g i k ≤ 10000 := by
  have hn := hd.le
  obtain ⟨_, o1⟩ := Os.Ex.odd hd hi
  obtain ⟨_, o2⟩ := Os.Ex.odd hd hk
  rcases h with ⟨-, rfl⟩ | ⟨-, rfl⟩
  · exact Nat.le_trans (Nat.mul_le_mul (show Os.Ex n k ≤ 64 by omega) (show i ≤ 64 by omega)) (by omega)
  · exact Nat.le_trans (Nat.mul_le_mul (show Os.Ex n i ≤ 64 by omega) (show 2 * n - k ≤ 64 by omega)) (by omega)
end Go.Proofs.Ytfmmkdmnondomaa
