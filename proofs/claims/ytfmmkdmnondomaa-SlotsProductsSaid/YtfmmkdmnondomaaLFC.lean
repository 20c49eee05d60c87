import Derived.Test.YtfmmkdmnondomaaLFA
import Derived.Test.YtfmmkdmnondomaaLFB
/- Hensel's lemma. No Go here. -/
namespace Oh7
open Op
set_option linter.unusedVariables false

/-- The value of the derivative. -/
def evd : List Int → Int → Int
  | [], _ => 0
  | _ :: l, x => ev l x + x * evd l x
theorem ev_cons (c : Int) (l : List Int) (x : Int) : ev (c :: l) x = c + x * ev l x := rfl
theorem evd_cons (c : Int) (l : List Int) (x : Int) : evd (c :: l) x = ev l x + x * evd l x := rfl
theorem taylor (x h : Int) : ∀ l, ∃ t, ev l (x + h) = ev l x + h * evd l x + h * h * t
  | [] => ⟨0, by simp [ev, evd]⟩
  | c :: l => by
    obtain ⟨t, ht⟩ := taylor x h l
    refine ⟨evd l x + x * t + h * t, ?_⟩
    rw [ev_cons, ev_cons, evd_cons, ht]
    simp only [Int.mul_add, Int.add_mul, Int.mul_assoc, Int.mul_left_comm, Int.mul_comm]
    have e1 : h * (x * evd l x) = x * (h * evd l x) := Int.mul_left_comm ..
    omega
theorem ev_dvd {m x y : Int} (h : m ∣ x - y) (l : List Int) : m ∣ ev l x - ev l y := by
  obtain ⟨t, ht⟩ := taylor y (x - y) l
  have e : y + (x - y) = x := by omega
  rw [e] at ht
  rw [ht]
  have e2 : ev l y + (x - y) * evd l y + (x - y) * (x - y) * t - ev l y = (x - y) * (evd l y + (x - y) * t) := by rw [Int.mul_add, Int.mul_assoc]; omega
  rw [e2]; exact Int.dvd_mul_of_dvd_left h
theorem evd_dvd {m x y : Int} (h : m ∣ x - y) : ∀ l, m ∣ evd l x - evd l y
  | [] => ⟨0, by simp [evd]⟩
  | c :: l => by
    rw [evd_cons, evd_cons]
    have h1 := ev_dvd h l
    have h2 := evd_dvd h l
    have e : ev l x + x * evd l x - (ev l y + y * evd l y) = (ev l x - ev l y) + (x * (evd l x - evd l y) + (x - y) * evd l y) := by rw [Int.mul_sub, Int.sub_mul]; omega
    rw [e]
    exact Int.dvd_add h1 (Int.dvd_add (Int.dvd_mul_of_dvd_right h2) (Int.dvd_mul_of_dvd_left h))
theorem dvd_pow_mul {p : Nat} (hp : Ob.Pr p) {u h : Int} (hu : ¬ (p : Int) ∣ u) : ∀ r : Nat, (p : Int) ^ r ∣ h * u → (p : Int) ^ r ∣ h
  | 0, _ => ⟨h, by simp⟩
  | r + 1, hd => by
    have h1 : (p : Int) ^ r ∣ h * u := Int.dvd_trans ⟨p, by rw [Int.pow_succ]⟩ hd
    obtain ⟨k, hk⟩ := dvd_pow_mul hp hu r h1
    subst hk
    rw [Int.pow_succ, Int.mul_assoc] at hd
    have hp0 : (p : Int) ^ r ≠ 0 := by
      have h2 : 0 < p ^ r := Nat.pow_pos (by have := hp.1; omega)
      rw [← Int.natCast_pow]; omega
    have h3 : (p : Int) ∣ k * u := by
      obtain ⟨c, hc⟩ := hd
      refine ⟨c, Int.eq_of_mul_eq_mul_left hp0 ?_⟩
      rw [hc, Int.mul_assoc]
    rcases hp.int_mul h3 with h4 | h4
    · obtain ⟨c, rfl⟩ := h4
      exact ⟨c, by rw [Int.pow_succ, Int.mul_assoc]⟩
    · exact absurd h4 hu
/-- Two roots modulo p^r that are the same simple root modulo p are the same modulo p^r. -/
theorem unique {p : Nat} (hp : Ob.Pr p) {l : List Int} {x y : Int} {r : Nat} (hxy : (p : Int) ∣ y - x) (hs : ¬ (p : Int) ∣ evd l x) (hx : (p : Int) ^ r ∣ ev l x) (hy : (p : Int) ^ r ∣ ev l y) : (p : Int) ^ r ∣ y - x := by
  obtain ⟨t, ht⟩ := taylor x (y - x) l
  have e : x + (y - x) = y := by omega
  rw [e] at ht
  refine dvd_pow_mul hp (u := evd l x + (y - x) * t) (fun hd => hs ?_) r ?_
  · have h1 := Int.dvd_sub hd (Int.dvd_mul_of_dvd_left (c := t) hxy)
    rwa [Int.add_sub_cancel] at h1
  · have e2 : (y - x) * (evd l x + (y - x) * t) = ev l y - ev l x := by rw [ht, Int.mul_add, Int.mul_assoc]; omega
    rw [e2]; exact Int.dvd_sub hy hx
/-- One step: i is the inverse of the slope. -/
theorem step {p : Nat} {l : List Int} {x y v i : Int} {m : Int} {k r : Nat} (hm : m = (p : Int) ^ r) (hk1 : 1 ≤ k) (hk : k + 1 ≤ r) (hx : (p : Int) ^ k ∣ ev l x) (hv : m ∣ v - ev l x) (hi : (p : Int) ∣ evd l x * i - 1) (hy : m ∣ y - (x - v * i)) :
    (p : Int) ^ (k + 1) ∣ ev l y ∧ (p : Int) ∣ y - x := by
  have hkr : (p : Int) ^ (k + 1) ∣ m := by rw [hm]; exact ⟨(p : Int) ^ (r - (k + 1)), by rw [← Int.pow_add]; congr 1; omega⟩
  have hkk : (p : Int) ^ k ∣ (p : Int) ^ (k + 1) := ⟨p, by rw [Int.pow_succ]⟩
  have hpk : (p : Int) ∣ (p : Int) ^ k := by
    obtain ⟨j, rfl⟩ : ∃ j, k = j + 1 := ⟨k - 1, by omega⟩
    exact ⟨(p : Int) ^ j, by rw [Int.pow_succ, Int.mul_comm]⟩
  have hvk : (p : Int) ^ k ∣ v := by
    have h1 := Int.dvd_add (Int.dvd_trans (Int.dvd_trans hkk hkr) hv) hx
    rwa [Int.sub_add_cancel] at h1
  obtain ⟨t, ht⟩ := taylor x (-(v * i)) l
  have h1 : (p : Int) ^ (k + 1) ∣ ev l (x + -(v * i)) := by
    rw [ht]
    have e : ev l x + -(v * i) * evd l x + -(v * i) * -(v * i) * t = -(v - ev l x) + -(v * (evd l x * i - 1)) + v * v * (i * i * t) := by
      have e1 : v * i * (v * i) * t = v * v * (i * i * t) := by
        rw [Int.mul_assoc v i, Int.mul_left_comm i v i, ← Int.mul_assoc v v, Int.mul_assoc (v * v)]
      rw [Int.neg_mul_neg, e1, Int.mul_sub, Int.mul_one, Int.neg_mul, Int.mul_assoc, Int.mul_comm i (evd l x)]
      omega
    rw [e]
    refine Int.dvd_add (Int.dvd_add (Int.dvd_neg.2 (Int.dvd_trans hkr hv)) (Int.dvd_neg.2 ?_)) (Int.dvd_mul_of_dvd_left ?_)
    · rw [Int.pow_succ]; exact Int.mul_dvd_mul hvk hi
    · rw [Int.pow_succ]; exact Int.mul_dvd_mul hvk (Int.dvd_trans hpk hvk)
  have h2 : m ∣ y - (x + -(v * i)) := by
    have e : x - v * i = x + -(v * i) := by omega
    rwa [e] at hy
  constructor
  · have h3 := Int.dvd_add (ev_dvd (Int.dvd_trans hkr h2) l) h1
    rwa [Int.sub_add_cancel] at h3
  · have h3 := Int.dvd_sub (Int.dvd_trans (Int.dvd_trans hpk (Int.dvd_trans hkk hkr)) h2) (Int.dvd_mul_of_dvd_left (c := i) (Int.dvd_trans hpk hvk))
    have e : y - (x + -(v * i)) - v * i = y - x := by omega
    rwa [e] at h3
theorem inv_ex {p : Nat} (hp : Ob.Pr p) {u : Int} (hu : ¬ (p : Int) ∣ u) : ∃ i : Int, (p : Int) ∣ u * i - 1 := by
  have hp2 := hp.1
  have h0 := Int.emod_nonneg u (show (p : Int) ≠ 0 by omega)
  have h1 := Int.emod_lt_of_pos u (show (0 : Int) < p by omega)
  have hne : u % p ≠ 0 := fun e => hu (Int.dvd_of_emod_eq_zero e)
  obtain ⟨i, hi⟩ := Op.fld_of hp (u % p) (by omega) h1
  refine ⟨i, ?_⟩
  have e : u * i - 1 = (u % p * i - 1) + p * (u / p * i) := by
    have := Int.emod_add_mul_ediv u p
    have e2 : u * i = (u % p + p * (u / p)) * i := by rw [this]
    rw [e2, Int.add_mul, Int.mul_assoc]; omega
  rw [e]; exact Int.dvd_add hi ⟨_, rfl⟩
theorem exist {p : Nat} (hp : Ob.Pr p) {l : List Int} {x : Int} (h0 : (p : Int) ∣ ev l x) (hs : ¬ (p : Int) ∣ evd l x) : ∀ r, 1 ≤ r → ∃ y, (p : Int) ∣ y - x ∧ (p : Int) ^ r ∣ ev l y
  | 0, h => by omega
  | 1, _ => ⟨x, ⟨0, by simp⟩, by rw [Int.pow_succ, Int.pow_zero, Int.one_mul]; exact h0⟩
  | r + 2, _ => by
    obtain ⟨y, h1, h2⟩ := exist hp h0 hs (r + 1) (by omega)
    have hs' : ¬ (p : Int) ∣ evd l y := fun hd => hs (by
      have := Int.dvd_sub hd (evd_dvd h1 l)
      have e : evd l y - (evd l y - evd l x) = evd l x := by omega
      rwa [e] at this)
    obtain ⟨i, hi⟩ := inv_ex hp hs'
    have := step (y := y - ev l y * i) (v := ev l y) (i := i) (m := (p : Int) ^ (r + 2)) (k := r + 1) rfl (by omega) (by omega) h2 ⟨0, by simp⟩ hi ⟨0, by simp⟩
    refine ⟨y - ev l y * i, ?_, this.1⟩
    have h3 := Int.dvd_add this.2 h1
    have e : y - ev l y * i - y + (y - x) = y - ev l y * i - x := by omega
    rwa [e] at h3

theorem tmod_dvd (q c : Int) : q ∣ c.tmod q - c := ⟨-(c.tdiv q), by have := Int.tmod_add_mul_tdiv c q; rw [Int.mul_neg]; omega⟩
end Oh7
/- Values of polynomials, moduli: of both sides. -/
namespace Go.Proofs.Ytfmmkdmnondomaa
open Go.RowKit
set_option linter.unusedVariables false

theorem f7plus_any (s x y m : Int) (w : World) (hm : 1 ≤ m ∧ m ≤ 2147483647) (hs : 0 ≤ s ∧ s ≤ 2147483647) (hx : 0 ≤ x ∧ x ≤ 2147483647) (hy : 0 ≤ y ∧ y ≤ 2147483647) :
    Calls Try.prog 88 #[.int .u32 s, .int .u32 x, .int .u32 y, .int .u32 m] w (fun e w' => e = .returned (.int .u32 ((s + x * y) % m)) ∧ w = w') := by
  obtain ⟨q1, q2⟩ := hm
  obtain ⟨s1, s2⟩ := hs
  obtain ⟨x1, x2⟩ := hx
  obtain ⟨y1, y2⟩ := hy
  have p0 := mul_lo x1 y1
  have p1 : x * y ≤ 4611686014132420609 := by
    have h1 : x * y ≤ 2147483647 * y := Int.mul_le_mul_of_nonneg_right (by omega) (by omega)
    omega
  have r0 := emod_lo (s + x * y) m (by omega)
  have r1 := emod_hi (s + x * y) m (by omega)
  go_enter Try.func88, Try.ntmps88
  go_wp2_with fail
  go_ret
  exact ⟨rfl, rfl⟩
theorem horner (c E x m : Int) : (c % m + E % m * x) % m = (c + x * E) % m := by
  rw [Int.add_emod, Int.emod_emod, Int.mul_emod, Int.emod_emod, ← Int.mul_emod, ← Int.add_emod, Int.mul_comm]

set_option maxRecDepth 100000 in
set_option maxHeartbeats 1000000 in
theorem values_any (a : List Int) (u : Value) (x m : Int) (w : World) (hm : 2 ≤ m ∧ m ≤ 2147483647) (hx : 0 ≤ x ∧ x < m) (hu : Lo.HasQ w u a) (hla : a.length ≤ 1000000) :
    Calls Try.prog 76 #[u, .int .u32 x, .int .u32 m] w (fun e w' => e = .returned (.tuple #[.int .u32 (Op.ev a x % m), .int .u32 (Oh7.evd a x % m)]) ∧ Gr w w') := by
  obtain ⟨da, xa, ca, rfl, -, -, ha⟩ := id hu
  obtain ⟨na, hna⟩ : ∃ na, na = a.length := ⟨_, rfl⟩
  have HA := Lib.hid ha
  have HDA := Lib.hid da
  have HNA := Lib.hid hna
  obtain ⟨m1, m2⟩ := hm
  obtain ⟨x1, x2⟩ := hx
  rw [← hna] at hla ⊢
  clear hu da ha hna
  go_enter Try.func76, Try.ntmps76
  go_wp2_with fail
  go_loopw [6, 7, 8, 9, 10] (fun s t i _ _ wr => ∃ (k : Nat) (V S : Int), s = .int .u32 V ∧ t = .int .u32 S ∧ i = .int .i64 ((k : Int) - 1) ∧ k ≤ na ∧ V = Op.ev (a.drop k) x % m ∧ S = Oh7.evd (a.drop k) x % m ∧ Gr w wr) (fun _ _ i _ _ _ => (intOf i + 1).toNat)
  case atStart =>
    refine ⟨na, 0, 0, rfl, rfl, rfl, Nat.le_refl _, ?_, ?_, Gr.refl _⟩
    · rw [List.drop_eq_nil_of_le (by rw [HNA.out]; exact Nat.le_refl _)]; simp [Op.ev]
    · rw [List.drop_eq_nil_of_le (by rw [HNA.out]; exact Nat.le_refl _)]; simp [Oh7.evd]
  case round =>
    obtain ⟨k, V, S, rfl, rfl, rfl, hk, hV, hS, hg⟩ := hrel
    have v0 : 0 ≤ V := by rw [hV]; exact emod_lo _ _ (by omega)
    have v1 : V < m := by rw [hV]; exact emod_hi _ _ (by omega)
    have s0 : 0 ≤ S := by rw [hS]; exact emod_lo _ _ (by omega)
    have s1 : S < m := by rw [hS]; exact emod_hi _ _ (by omega)
    have HV := Lib.hid hV
    have HS := Lib.hid hS
    have HG := Lib.hid hg
    clear hV hS hg
    by_cases h0 : 0 < k
    · obtain ⟨j, rfl⟩ : ∃ j, k = j + 1 := ⟨k - 1, by omega⟩
      obtain ⟨g, o, rfl, hc⟩ := HA.out j (by rw [← HNA.out]; omega)
      have hc : wr.cell? ⟨g, o + j, none⟩ = _ := HG.out.keeps hc
      have hcb := HDA.out.at_ j
      obtain ⟨c, hce⟩ : ∃ c, c = Op.cf a j := ⟨_, rfl⟩
      rw [← hce] at hc hcb
      have HC := Lib.hid hce
      obtain ⟨c0, c1⟩ := hcb
      clear hce
      have j0 : ((j + 1 : Nat) : Int) - 1 = (j : Int) := by omega
      rw [j0]
      have j1 : (j : Int) < (na : Int) := by omega
      clear j0
      go_wp2_with fail
      refine (of_ok c m _ m1 m2 c0 (by omega)).mono ?_
      rintro e w1 ⟨rfl, hg1⟩
      have r0 := emod_lo c m (by omega)
      have r1 := emod_hi c m (by omega)
      have HG1 := Lib.hid hg1
      obtain ⟨C, hC⟩ : ∃ C, C = c % m := ⟨_, rfl⟩
      rw [← hC] at r0 r1 ⊢
      have HCC := Lib.hid hC
      clear hg1 hC
      go_wp2_with fail
      refine (f7plus_any V S x m _ ⟨by omega, m2⟩ ⟨by omega, by omega⟩ ⟨by omega, by omega⟩ ⟨by omega, by omega⟩).mono ?_
      rintro e w2 ⟨rfl, rfl⟩
      go_wp2_with fail
      refine (f7plus_any C V x m _ ⟨by omega, m2⟩ ⟨by omega, by omega⟩ ⟨by omega, by omega⟩ ⟨by omega, by omega⟩).mono ?_
      rintro e w2 ⟨rfl, rfl⟩
      go_wp2_with fail
      go_roundw
      case rel =>
        have ed : a.drop j = c :: a.drop (j + 1) := by
          rw [List.drop_eq_getElem_cons (by rw [← HNA.out]; omega), HC.out]
          congr 1
          rw [← Op.cf_at, List.getElem?_eq_getElem (by rw [← HNA.out]; omega)]; rfl
        refine ⟨j, _, _, rfl, rfl, by simp, by omega, ?_, ?_, HG.out.trans HG1.out⟩
        · rw [ed, Oh7.ev_cons, HCC.out, HV.out, horner]
        · rw [ed, Oh7.evd_cons, HV.out, HS.out, horner]
      case measure => simp [intOf]
    · obtain rfl : k = 0 := by omega
      go_wp2_with fail
      go_ret2
      exact ⟨by rw [HV.out, HS.out]; rfl, HG.out⟩

/-- p^r, and whether it is a plain modulus. -/
def MdR (p : Nat) (r : Int) (m : Nat) (ok : Bool) : Prop := (ok = true ∧ PlP p ∧ 1 ≤ r ∧ m = p ^ r.toNat ∧ m ≤ 2147483647) ∨ (ok = false ∧ m = 0 ∧ ¬ (PlP p ∧ 1 ≤ r ∧ p ^ r.toNat ≤ 2147483647))
def ModP (k : IntKind) (p : Nat) (r : Int) (w : World) (e : Ending) (w' : World) : Prop := ∃ (m : Nat) (ok : Bool), e = .returned (.tuple #[.int k m, .bool ok]) ∧ MdR p r m ok ∧ Gr w w'

set_option maxRecDepth 100000 in
set_option maxHeartbeats 1000000 in
theorem plainMod_any (p : Nat) (r : Int) (w : World) (hp : p ≤ 4294967295) (hr : -9223372036854775808 ≤ r ∧ r ≤ 9223372036854775807) : Calls Try.prog 56 #[.int .u32 p, .int .i64 r] w (ModP .u32 p r w) := by
  by_cases hr1 : 1 ≤ r
  · obtain ⟨rn, rfl⟩ := Int.eq_ofNat_of_zero_le (show 0 ≤ r by omega)
    obtain ⟨hr2, hr3⟩ := hr
    go_enter Try.func56, Try.ntmps56
    go_wp2_with fail
    refine (fplain_any p _ hp).mono ?_
    rintro e w1 ⟨b, rfl, hb, hg⟩
    have H := Lib.hid (And.intro hb hg)
    clear hb hg
    cases b with
    | false =>
      have HN := Lib.hid (show ¬ PlP p from fun h => absurd (H.out.1.2 h) (by simp))
      have HG := Lib.hid H.out.2
      clear H
      go_wp2_with fail
      go_ret2
      exact ⟨0, false, rfl, .inr ⟨rfl, rfl, fun h => HN.out h.1⟩, HG.out⟩
    | true =>
      have HPL := Lib.hid (H.out.1.1 rfl)
      have HG := Lib.hid H.out.2
      have p2 : (2 : Int) < (p : Int) := by have := HPL.out.1; omega
      have p3 : (p : Int) ≤ 65535 := by have := HPL.out.2.1; omega
      clear H
      go_wp2_with fail
      go_loopw [6, 15] (fun s t wr => ∃ (i M : Nat), t = .int .i64 i ∧ s = .int .u64 M ∧ i ≤ rn ∧ M = p ^ i ∧ (M : Int) ≤ 2147483647 ∧ 1 ≤ M ∧ wr = w1) (fun _ t _ => rn - (intOf t).toNat)
      case atStart => exact ⟨0, 1, rfl, rfl, by omega, by simp, by omega, by omega, rfl⟩
      case round =>
        obtain ⟨i, M, rfl, rfl, hi, hM, hle, h1, rfl⟩ := hrel
        have HM := Lib.hid hM
        clear hM
        by_cases hlt : i < rn
        · have i5 : (i : Int) < (rn : Int) := by omega
          have q0 : (0 : Int) ≤ (M : Int) * (p : Int) := mul_lo (by omega) (by omega)
          have q1 : (M : Int) * (p : Int) ≤ 2147483647 * 65535 := Int.mul_le_mul hle p3 (by omega) (by omega)
          obtain ⟨Q, hQ⟩ : ∃ Q : Nat, Q = M * p := ⟨_, rfl⟩
          have hQ2 : (M : Int) * (p : Int) = (Q : Int) := by rw [hQ, Int.natCast_mul]
          have HQ2 := Lib.hid hQ2
          have HQ := Lib.hid (show Q = p ^ (i + 1) from by rw [hQ, HM.out, Nat.pow_succ])
          have hQ1 : 1 ≤ Q := by rw [hQ]; exact Nat.mul_pos h1 (by omega)
          clear hQ hQ2
          by_cases hbig : 2147483647 < (M : Int) * (p : Int)
          · go_wp2_with fail
            go_ret2
            refine ⟨0, false, rfl, .inr ⟨rfl, rfl, fun h => ?_⟩, HG.out⟩
            have h2 := h.2.2
            rw [Int.toNat_natCast] at h2
            have h3 : p ^ (i + 1) ≤ p ^ rn := Nat.pow_le_pow_right (by omega) (by omega)
            rw [← HQ.out] at h3
            have := HQ2.out
            omega
          · go_wp2_with fail
            go_roundw
            case rel => exact ⟨i + 1, Q, by simp, by rw [HQ2.out], by omega, HQ.out, by have := HQ2.out; omega, hQ1, trivial⟩
            case measure => simp [intOf]; omega
        · obtain rfl : i = rn := by omega
          have i5 : ¬ (i : Int) < (i : Int) := by omega
          go_wp2_with fail
          go_ret2
          exact ⟨M, true, rfl, .inl ⟨rfl, HPL.out, by omega, by rw [HM.out, Int.toNat_natCast], by omega⟩, HG.out⟩
  · have hr4 : r < 1 := by omega
    have HR := Lib.hid hr1
    clear hr1
    go_enter Try.func56, Try.ntmps56
    go_wp2_with fail
    refine (fplain_any p _ hp).mono ?_
    rintro e w1 ⟨b, rfl, hb, hg⟩
    have HG := Lib.hid hg
    clear hg hb
    cases b with
    | false =>
      go_wp2_with fail
      go_ret2
      exact ⟨0, false, rfl, .inr ⟨rfl, rfl, fun h => absurd h.2.1 (by have := HR.out; omega)⟩, HG.out⟩
    | true =>
      go_wp2_with fail
      go_ret2
      exact ⟨0, false, rfl, .inr ⟨rfl, rfl, fun h => absurd h.2.1 (by have := HR.out; omega)⟩, HG.out⟩

end Go.Proofs.Ytfmmkdmnondomaa
/- The reference's values and derivative. -/
namespace Go.Proofs.Ytfmmkdmnondomaa
open Go.RowKit
set_option linter.unusedVariables false

end Go.Proofs.Ytfmmkdmnondomaa
/- Lift, of the program. -/
namespace Go.Proofs.Ytfmmkdmnondomaa
open Go.RowKit
set_option linter.unusedVariables false

def MdOk (p : Nat) (r : Int) : Prop := PlP p ∧ 1 ≤ r ∧ p ^ r.toNat ≤ 2147483647
/-- A simple root. -/
def Simple (a : List Int) (p root : Nat) : Prop := (p : Int) ∣ Op.ev a root ∧ ¬ (p : Int) ∣ Oh7.evd a root
def LiftR (a : List Int) (p : Nat) (r : Int) (root x : Nat) (E : Int) : Prop :=
  (¬ (MdOk p r ∧ root < p) ∧ x = 0 ∧ E = 2) ∨ ((MdOk p r ∧ root < p) ∧ 256 < a.length ∧ x = 0 ∧ E = 3) ∨ ((MdOk p r ∧ root < p) ∧ ¬ 256 < a.length ∧ ¬ Simple a p root ∧ x = 0 ∧ E = 4) ∨
  ((MdOk p r ∧ root < p) ∧ ¬ 256 < a.length ∧ Simple a p root ∧ E = 0 ∧ x < p ^ r.toNat ∧ (p : Int) ∣ (x : Int) - root ∧ (p : Int) ^ r.toNat ∣ Op.ev a x)
theorem LiftR.unique {a : List Int} {p : Nat} {r : Int} {root x y : Nat} {E F : Int} (h : LiftR a p r root x E) (k : LiftR a p r root y F) : x = y ∧ E = F := by
  rcases h with ⟨h1, rfl, rfl⟩ | ⟨h1, h2, rfl, rfl⟩ | ⟨h1, h2, h3, rfl, rfl⟩ | ⟨h1, h2, h3, rfl, h4, h5, h6⟩ <;> rcases k with ⟨k1, rfl, rfl⟩ | ⟨k1, k2, rfl, rfl⟩ | ⟨k1, k2, k3, rfl, rfl⟩ | ⟨k1, k2, k3, rfl, k4, k5, k6⟩
  all_goals first | exact ⟨rfl, rfl⟩ | exact absurd k1 h1 | exact absurd h1 k1 | exact absurd h2 k2 | exact absurd k2 h2 | exact absurd k3 h3 | exact absurd h3 k3 | skip
  refine ⟨?_, rfl⟩
  have hp := h1.1.1.2.2
  have hyx : (p : Int) ∣ (y : Int) - x := by
    have := Int.dvd_sub k5 h5
    have e : (y : Int) - root - ((x : Int) - root) = y - x := by omega
    rwa [e] at this
  have hs : ¬ (p : Int) ∣ Oh7.evd a x := fun hd => h3.2 (by
    have := Int.dvd_sub hd (Oh7.evd_dvd h5 a)
    have e : Oh7.evd a x - (Oh7.evd a x - Oh7.evd a root) = Oh7.evd a root := by omega
    rwa [e] at this)
  have hu := Oh7.unique hp hyx hs h6 k6
  rw [← Int.natCast_pow] at hu
  have := Op.dvd_small hu (x := (y : Int)) (y := (x : Int)) (by omega) (by omega)
  omega
def LiftP (a : List Int) (p : Nat) (r : Int) (root : Nat) (w : World) (e : Ending) (w' : World) : Prop := ∃ (x : Nat) (E : Int), e = .returned (.tuple #[.int .u32 x, .int .i64 E]) ∧ LiftR a p r root x E ∧ Gr w w'
theorem MdR.ok {p : Nat} {r : Int} {m : Nat} {ok : Bool} (h : MdR p r m ok) : (ok = true ↔ MdOk p r) ∧ (ok = true → m = p ^ r.toNat) := by
  rcases h with ⟨rfl, h1, h2, h3, h4⟩ | ⟨rfl, h1, h2⟩
  · exact ⟨⟨fun _ => ⟨h1, h2, by omega⟩, fun _ => rfl⟩, fun _ => h3⟩
  · exact ⟨⟨fun h => (by cases h), fun h => absurd h h2⟩, fun h => (by cases h)⟩
theorem gcd_pow {p : Nat} (hp : Ob.Pr p) {s : Nat} : ∀ r, 1 ≤ r → (Nat.gcd s (p ^ r) = 1 ↔ ¬ p ∣ s) := fun r hr => by
  constructor
  · intro h hd
    have h1 : p ∣ p ^ r := by
      obtain ⟨j, rfl⟩ : ∃ j, r = j + 1 := ⟨r - 1, by omega⟩
      exact ⟨p ^ j, by rw [Nat.pow_succ, Nat.mul_comm]⟩
    have h2 := Nat.dvd_gcd hd h1
    rw [h] at h2
    have := Nat.le_of_dvd (by omega) h2
    have := hp.1
    omega
  · intro h
    have h1 : Nat.Coprime p s := hp.coprime h
    exact Nat.Coprime.pow_right r (Nat.Coprime.symm h1)

set_option maxRecDepth 100000 in
set_option maxHeartbeats 4000000 in
theorem lift_any (a : List Int) (u : Value) (p : Nat) (r : Int) (root : Nat) (w : World) (hu : Lo.HasQ w u a) (hla : a.length ≤ 9223372036854775807) (hp : p ≤ 4294967295) (hr : -9223372036854775808 ≤ r ∧ r ≤ 9223372036854775807) (hroot : root ≤ 4294967295) :
    Calls Try.prog 59 #[u, .int .u32 p, .int .i64 r, .int .u32 root] w (LiftP a p r root w) := by
  obtain ⟨-, xa, ca, rfl, -, -, -⟩ := id hu
  obtain ⟨na, hna⟩ : ∃ na, na = a.length := ⟨_, rfl⟩
  have HNA := Lib.hid hna
  have HR := Lib.hid hr
  rw [← hna] at hu hla ⊢
  have HU := Lib.hid hu
  clear hu hna hr
  by_cases hok : MdOk p r
  · by_cases hrp : root < p
    · by_cases hlong : 256 < na
      · have HOK := Lib.hid hok
        clear hok
        have i1 : (root : Int) < (p : Int) := by omega
        have i2 : (256 : Int) < (na : Int) := by omega
        go_enter Try.func59, Try.ntmps59
        go_wp2_with fail
        refine (plainMod_any p r _ hp HR.out).mono ?_
        rintro e w1 ⟨m, ok, rfl, hmd, hg⟩
        obtain rfl := hmd.ok.1.2 HOK.out
        have HG := Lib.hid hg
        clear hmd hg
        go_wp2_with fail
        go_ret2
        exact ⟨0, 3, rfl, .inr (.inl ⟨⟨HOK.out, hrp⟩, by rw [← HNA.out]; exact hlong, rfl, rfl⟩), HG.out⟩
      · obtain ⟨rn, rfl⟩ := Int.eq_ofNat_of_zero_le (show 0 ≤ r by have := hok.2.1; omega)
        have hr1 : 1 ≤ rn := by have := hok.2.1; omega
        obtain ⟨m, hm⟩ : ∃ m, m = p ^ rn := ⟨_, rfl⟩
        have hm2 : m ≤ 2147483647 := by have := hok.2.2; rw [Int.toNat_natCast, ← hm] at this; exact this
        have hpm : p ≤ m := by rw [hm]; have := Nat.pow_le_pow_right (show 1 ≤ p by have := hok.1.1; omega) hr1; rwa [Nat.pow_one] at this
        have hp2 : 2 < p := hok.1.1
        have hpr := hok.1.2.2
        have i6 : (rn : Int) ≤ 2147483647 := by
          have h1 : rn < 2 ^ rn := Nat.lt_two_pow_self
          have h2 : 2 ^ rn ≤ p ^ rn := Nat.pow_le_pow_left (by omega) rn
          omega
        have HOK := Lib.hid hok
        have HM := Lib.hid hm
        have HPR := Lib.hid hpr
        have i1 : (root : Int) < (p : Int) := by omega
        have i2 : (na : Int) ≤ 256 := by omega
        have i3 : (2 : Int) < (p : Int) := by omega
        have i4 : (m : Int) ≤ 2147483647 := by omega
        have i5 : (p : Int) ≤ (m : Int) := by omega
        have HDP := Lib.hid (show (p : Int) ∣ (m : Int) from by rw [hm]; obtain ⟨j, rfl⟩ : ∃ j, rn = j + 1 := ⟨rn - 1, by omega⟩; exact ⟨(p : Int) ^ j, by rw [Int.natCast_pow, Int.pow_succ, Int.mul_comm]⟩)
        have HMI := Lib.hid (show (m : Int) = (p : Int) ^ rn from by rw [hm, Int.natCast_pow])
        have HLA := Lib.hid (show a.length ≤ 1000000 from by rw [← HNA.out]; omega)
        have HUU := Lib.hid hlong
        clear hok hm hpr hlong hm2 hpm hp2
        go_enter Try.func59, Try.ntmps59
        go_wp2_with fail
        refine (plainMod_any p rn _ hp HR.out).mono ?_
        rintro e w1 ⟨m', ok, rfl, hmd, hg⟩
        obtain rfl := hmd.ok.1.2 HOK.out
        obtain rfl : m' = m := by rw [hmd.ok.2 rfl, Int.toNat_natCast, HM.out]
        have HG := Lib.hid hg
        clear hmd hg
        go_wp2_with fail
        refine (values_any a _ root m' _ ⟨by omega, i4⟩ ⟨by omega, by omega⟩ (HU.out.later HG.out) HLA.out).mono ?_
        rintro e w2 ⟨rfl, hg2⟩
        have HG2 := Lib.hid hg2
        obtain ⟨V, hV⟩ : ∃ V : Nat, (V : Int) = Op.ev a root % m' := ⟨(Op.ev a root % m').toNat, Int.toNat_of_nonneg (emod_lo _ _ (by omega))⟩
        obtain ⟨S, hS⟩ : ∃ S : Nat, (S : Int) = Oh7.evd a root % m' := ⟨(Oh7.evd a root % m').toNat, Int.toNat_of_nonneg (emod_lo _ _ (by omega))⟩
        have v1 : (V : Int) < m' := by rw [hV]; exact emod_hi _ _ (by omega)
        have s1 : (S : Int) < m' := by rw [hS]; exact emod_hi _ _ (by omega)
        rw [← hV, ← hS]
        have HV := Lib.hid (show (m' : Int) ∣ V - Op.ev a root from by rw [hV]; exact Op.dvd_mod _ _)
        have HS := Lib.hid (show (m' : Int) ∣ S - Oh7.evd a root from by rw [hS]; exact Op.dvd_mod _ _)
        have HVE := Lib.hid hV
        clear hg2 hV hS
        have s2 : S < m' := by omega
        have HPS := Lib.hid (show p ∣ S ↔ (p : Int) ∣ Oh7.evd a root from by
          have h1 := Int.dvd_trans HDP.out HS.out
          constructor
          · intro h
            have h2 := Int.dvd_sub (Int.ofNat_dvd.2 h) h1
            have e : (S : Int) - (S - Oh7.evd a root) = Oh7.evd a root := by omega
            rwa [e] at h2
          · intro h
            have h2 := Int.dvd_add h1 h
            rw [Int.sub_add_cancel] at h2
            exact Int.ofNat_dvd.1 h2)
        have HPV := Lib.hid (show (V : Int) % p = 0 ↔ (p : Int) ∣ Op.ev a root from by
          have h1 := Int.dvd_trans HDP.out HV.out
          constructor
          · intro h
            have h2 := Int.dvd_sub (Int.dvd_of_emod_eq_zero h) h1
            have e : (V : Int) - (V - Op.ev a root) = Op.ev a root := by omega
            rwa [e] at h2
          · intro h
            have h2 := Int.dvd_add h1 h
            rw [Int.sub_add_cancel] at h2
            exact Int.emod_eq_zero_of_dvd h2)
        by_cases hsl : p ∣ S
        · have HSL := Lib.hid hsl
          clear hsl
          go_wp2_with fail
          refine (inverse_none S m' _ (by omega) (by omega) s2 (fun e => (gcd_pow HPR.out rn hr1).1 (by rw [← HM.out]; exact e) HSL.out)).mono ?_
          rintro e w3 ⟨rfl, hg3⟩
          have HG3 := Lib.hid hg3
          clear hg3
          go_wp2_with fail
          go_ret2
          exact ⟨0, 4, rfl, .inr (.inr (.inl ⟨⟨HOK.out, hrp⟩, by rw [← HNA.out]; exact HUU.out, fun h => h.2 (HPS.out.1 HSL.out), rfl, rfl⟩)), (HG.out.trans HG2.out).trans HG3.out⟩
        · have HSL := Lib.hid hsl
          clear hsl
          go_wp2_with fail
          refine (inverse_ok S m' _ (by omega) (by omega) s2 (by rw [HM.out]; exact (gcd_pow HPR.out rn hr1).2 HSL.out)).mono ?_
          rintro e w3 ⟨b, ⟨rfl, hg3⟩, b0, b1, b2⟩
          have HG3 := Lib.hid (HG.out.trans HG2.out |>.trans hg3)
          have HINV := Lib.hid (show (p : Int) ∣ Oh7.evd a root * b - 1 from by
            have h1 : (m' : Int) ∣ (S : Int) * b - 1 := by
              have h2 := Op.dvd_mod m' ((S : Int) * b)
              rw [b2] at h2
              have e : (S : Int) * b - 1 = -(1 - (S : Int) * b) := by omega
              rw [e]; exact Int.dvd_neg.2 h2
            have h3 := Int.dvd_sub (Int.dvd_trans HDP.out h1) (Int.dvd_mul_of_dvd_left (c := b) (Int.dvd_trans HDP.out HS.out))
            have e : (S : Int) * b - 1 - (S - Oh7.evd a root) * b = Oh7.evd a root * b - 1 := by rw [Int.sub_mul]; omega
            rwa [e] at h3)
          have q0 := emod_lo (V : Int) (p : Int) (by omega)
          have q1 := emod_hi (V : Int) (p : Int) (by omega)
          clear hg3 b2
          by_cases hv : (V : Int) % (p : Int) = 0
          · have HSI := Lib.hid (show Simple a p root from ⟨HPV.out.1 hv, fun h => HSL.out (HPS.out.2 h)⟩)
            have hvb : ((V : Int) % (p : Int) != 0) = false := by simp [hv]
            clear hv
            go_wp2_with fail
            go_loopw [12, 16, 17, 18, 61] (fun s t _ _ i wr => ∃ (k : Nat) (X V : Nat), i = .int .i64 k ∧ t = .int .u32 X ∧ s = .int .u32 V ∧ k ≤ rn - 1 ∧ (X : Int) < m' ∧ (V : Int) < m' ∧ (m' : Int) ∣ V - Op.ev a X ∧ (p : Int) ^ (k + 1) ∣ Op.ev a X ∧ (p : Int) ∣ X - root ∧ Gr w wr) (fun _ _ _ _ i _ => rn - 1 - (intOf i).toNat)
            case atStart => exact ⟨0, root, V, rfl, rfl, rfl, by omega, by omega, by omega, HV.out, by rw [Nat.zero_add, Int.pow_succ, Int.pow_zero, Int.one_mul]; exact HSI.out.1, ⟨0, by simp⟩, HG3.out⟩
            case round =>
              obtain ⟨k, X, V2, rfl, rfl, rfl, hk, hX, hV2, hd1, hd2, hd3, hg⟩ := hrel
              have H := Lib.hid (And.intro hd1 (And.intro hd2 (And.intro hd3 hg)))
              clear hd1 hd2 hd3 hg
              by_cases hlt : k < rn - 1
              · have j1 : (k : Int) < (rn : Int) - 1 := by omega
                go_wp2_with fail
                refine (mul_ok V2 b m' _ (by omega) i4 (by omega) b0 hV2 b1).mono ?_
                rintro e w4 ⟨rfl, hg4⟩
                have HG4 := Lib.hid hg4
                have t0 := emod_lo ((V2 : Int) * b) m' (by omega)
                have t1 := emod_hi ((V2 : Int) * b) m' (by omega)
                obtain ⟨T, hT⟩ : ∃ T, T = (V2 : Int) * b % m' := ⟨_, rfl⟩
                rw [← hT] at t0 t1 ⊢
                have HT := Lib.hid hT
                clear hg4 hT
                go_wp2_with fail
                refine (sub_ok X T m' _ (by omega) i4 (by omega) t0 hX t1).mono ?_
                rintro e w5 ⟨rfl, hg5⟩
                have HG5 := Lib.hid hg5
                obtain ⟨Y, hY⟩ : ∃ Y : Nat, (Y : Int) = ((X : Int) + (m' - T)) % m' := ⟨(((X : Int) + (m' - T)) % m').toNat, Int.toNat_of_nonneg (emod_lo _ _ (by omega))⟩
                have y1 : (Y : Int) < m' := by rw [hY]; exact emod_hi _ _ (by omega)
                rw [← hY]
                have HY := Lib.hid hY
                clear hg5 hY
                go_wp2_with fail
                refine (values_any a _ Y m' _ ⟨by omega, i4⟩ ⟨by omega, y1⟩ (HU.out.later (((H.out.2.2.2).trans HG4.out).trans HG5.out)) HLA.out).mono ?_
                rintro e w6 ⟨rfl, hg6⟩
                have HG6 := Lib.hid hg6
                obtain ⟨V3, hV3⟩ : ∃ V3 : Nat, (V3 : Int) = Op.ev a Y % m' := ⟨(Op.ev a Y % m').toNat, Int.toNat_of_nonneg (emod_lo _ _ (by omega))⟩
                rw [← hV3]
                have HV3 := Lib.hid hV3
                clear hg6 hV3
                go_wp2_with fail
                go_roundw
                case rel =>
                  obtain ⟨hd1, hd2, hd3, hg⟩ := H.out
                  have hstep := Oh7.step (l := a) (x := X) (y := Y) (v := V2) (i := b) (m := m') (k := k + 1) (r := rn) HMI.out (by omega) (by omega) hd2 hd1 (by
                    have h1 := Int.dvd_add (Int.dvd_mul_of_dvd_left (c := b) (Oh7.evd_dvd hd3 a)) HINV.out
                    have e : (Oh7.evd a X - Oh7.evd a root) * b + (Oh7.evd a root * b - 1) = Oh7.evd a X * b - 1 := by rw [Int.sub_mul]; omega
                    rwa [e] at h1) (by
                    have h1 := Op.dvd_mod m' ((X : Int) + (m' - T))
                    rw [← HY.out] at h1
                    have h2 := Op.dvd_mod m' ((V2 : Int) * b)
                    rw [← HT.out] at h2
                    have h3 := Int.dvd_sub (Int.dvd_add h1 (Int.dvd_refl m')) h2
                    have e : (Y : Int) - (X + (m' - T)) + m' - (T - V2 * b) = Y - (X - V2 * b) := by omega
                    rwa [e] at h3)
                  refine ⟨k + 1, Y, V3, by simp, rfl, rfl, by omega, y1, by rw [HV3.out]; exact emod_hi _ _ (by omega), by rw [HV3.out]; exact Op.dvd_mod _ _, hstep.1, ?_, ((hg.trans HG4.out).trans HG5.out).trans HG6.out⟩
                  have h1 := Int.dvd_add hstep.2 hd3
                  have e : (Y : Int) - X + (X - root) = Y - root := by omega
                  rwa [e] at h1
                case measure => simp [intOf]; omega
              · have HKN := Lib.hid (show k = rn - 1 from by omega)
                have j1 : ¬ ((k : Int) < (rn : Int) - 1) := by omega
                go_wp2_with fail
                go_ret2
                obtain ⟨hd1, hd2, hd3, hg⟩ := H.out
                rw [HKN.out, show rn - 1 + 1 = rn by omega] at hd2
                exact ⟨X, 0, rfl, .inr (.inr (.inr ⟨⟨HOK.out, hrp⟩, by rw [← HNA.out]; exact HUU.out, HSI.out, rfl, by rw [Int.toNat_natCast, ← HM.out]; omega, hd3, by rw [Int.toNat_natCast]; exact hd2⟩)), hg⟩
          · have HNS := Lib.hid (show ¬ Simple a p root from fun h => hv (HPV.out.2 h.1))
            have hvb : ((V : Int) % (p : Int) != 0) = true := by simp [hv]
            clear hv
            go_wp2_with fail
            go_ret2
            exact ⟨0, 4, rfl, .inr (.inr (.inl ⟨⟨HOK.out, hrp⟩, by rw [← HNA.out]; exact HUU.out, HNS.out, rfl, rfl⟩)), HG3.out⟩
    · have HOK := Lib.hid hok
      clear hok
      have i1 : ¬ (root : Int) < (p : Int) := by omega
      go_enter Try.func59, Try.ntmps59
      go_wp2_with fail
      refine (plainMod_any p r _ hp HR.out).mono ?_
      rintro e w1 ⟨m, ok, rfl, hmd, hg⟩
      obtain rfl := hmd.ok.1.2 HOK.out
      have HG := Lib.hid hg
      clear hmd hg
      go_wp2_with fail
      go_ret2
      exact ⟨0, 2, rfl, .inl ⟨fun h => hrp h.2, rfl, rfl⟩, HG.out⟩
  · have HOK := Lib.hid hok
    clear hok
    go_enter Try.func59, Try.ntmps59
    go_wp2_with fail
    refine (plainMod_any p r _ hp HR.out).mono ?_
    rintro e w1 ⟨m, ok, rfl, hmd, hg⟩
    obtain rfl : ok = false := by
      cases ok with
      | false => rfl
      | true => exact absurd (hmd.ok.1.1 rfl) HOK.out
    have HG := Lib.hid hg
    clear hmd hg
    go_wp2_with fail
    go_ret2
    exact ⟨0, 2, rfl, .inl ⟨fun h => HOK.out h.1, rfl, rfl⟩, HG.out⟩
end Go.Proofs.Ytfmmkdmnondomaa
