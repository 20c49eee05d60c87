import Derived.Test.YtfmmkdmnondomaaLSE
/- The reference: New, turned, Exponent, Power; the law's made. -/
namespace Os
theorem fz_exists : ∀ m : Nat, 1 ≤ m → ∃ M, Ob.Fz m M := by
  intro m
  induction m using Nat.strongRecOn with
  | ind m ih =>
    intro hm
    by_cases h1 : m = 1
    · exact ⟨[], h1 ▸ Ob.Fz.one⟩
    · obtain ⟨p, hp0, hmin⟩ : ∃ p, (2 ≤ p ∧ p ∣ m) ∧ ∀ d, 2 ≤ d → d < p → ¬ d ∣ m := by
        have key : ∀ k, k ≤ m → (∃ p, (2 ≤ p ∧ p ∣ m) ∧ ∀ d, 2 ≤ d → d < p → ¬ d ∣ m) ∨ ∀ d, 2 ≤ d → d ≤ k → ¬ d ∣ m := by
          intro k
          induction k with
          | zero => intro _; right; intro d h2 h3; omega
          | succ k ihk =>
            intro hk
            rcases ihk (by omega) with h | h
            · exact .inl h
            · by_cases hd : 2 ≤ k + 1 ∧ (k + 1) ∣ m
              · exact .inl ⟨k + 1, hd, fun d h2 h3 => h d h2 (by omega)⟩
              · right; intro d h2 h3 h4
                by_cases e : d = k + 1
                · exact hd ⟨by omega, e ▸ h4⟩
                · exact h d h2 (by omega) h4
        rcases key m (Nat.le_refl _) with h | h
        · exact h
        · exact absurd (Nat.dvd_refl m) (h m (by omega) (Nat.le_refl _))
      have hex : ∀ k c, 1 ≤ c → c ≤ k → ∃ e c', c = p ^ e * c' ∧ ¬ p ∣ c' ∧ 1 ≤ c' := by
        intro k
        induction k with
        | zero => intro c h1 h2; omega
        | succ k ihk =>
          intro c h1 h2
          by_cases hd : p ∣ c
          · obtain ⟨d, rfl⟩ := hd
            have hd1 : 1 ≤ d := by
              rcases d with _ | d
              · simp at h1
              · omega
            have : 2 * d ≤ p * d := Nat.mul_le_mul_right d hp0.1
            obtain ⟨e, c', h3, h4, h5⟩ := ihk d hd1 (by omega)
            exact ⟨e + 1, c', by rw [h3, Nat.pow_succ, Nat.mul_comm (p ^ e) p, Nat.mul_assoc], h4, h5⟩
          · exact ⟨0, c, by simp, hd, h1⟩
      obtain ⟨e, c, h3, h4, h5⟩ := hex m m hm (Nat.le_refl _)
      have he : 1 ≤ e := by
        rcases e with _ | e
        · simp at h3; rw [h3] at hp0; exact absurd hp0.2 h4
        · omega
      have hpe : p ^ 1 ≤ p ^ e := Nat.pow_le_pow_right (by omega) he
      rw [Nat.pow_one] at hpe
      have hlt : c < m := by
        have := Nat.mul_le_mul_right c (show 2 ≤ p ^ e by omega)
        rw [h3]; omega
      obtain ⟨M, hM⟩ := ih c hlt h5
      exact ⟨(p, e) :: M, by rw [h3]; exact Ob.Fz.cons p e c M hp0.1 (by rw [← h3]; exact hmin) he h4 hM⟩

theorem least_ex (Q : Nat → Prop) : ∀ y, Q y → ∃ z, z ≤ y ∧ Q z ∧ ∀ u, u < z → ¬ Q u := by
  intro y
  induction y using Nat.strongRecOn with
  | ind y ih =>
    intro h
    by_cases hx : ∃ u, u < y ∧ Q u
    · obtain ⟨u, hu, hq⟩ := hx
      obtain ⟨z, z1, z2, z3⟩ := ih u hu hq
      exact ⟨z, by omega, z2, z3⟩
    · exact ⟨y, Nat.le_refl _, h, fun u hu hq => hx ⟨u, hu, hq⟩⟩
theorem lroot_ex {n p : Nat} (hn : n ∈ Oq.dims) (hp : Ob.Pr p) (h2 : 2 < p) (h1 : p % (2 * n) = 1) : ∃ y, Oh7.LRoot n p y := by
  have hn2 : 2 ≤ n := by simp [Oq.dims] at hn; omega
  have hd : 2 * n ∣ p - 1 := ⟨p / (2 * n), by have := Nat.mod_add_div p (2 * n); omega⟩
  obtain ⟨L, hL⟩ := fz_exists (p - 1) (by omega)
  obtain ⟨g, g1, g2, g3⟩ := Ob.exists_gen hp hL
  have ho := Ob.gen_ord hp hL g1 g2 g3 hd (by omega)
  have hr := Oh7.IsR.of_ord hn hp h2 ho
  obtain ⟨z, z1, z2, z3⟩ := least_ex (Oh7.IsR n p) _ hr
  exact ⟨z, Nat.lt_of_le_of_lt z1 (Nat.mod_lt _ (by omega)), z2, z3⟩
end Os
namespace Go.Proofs.Ytfmmkdmnondomaa
open Go.RowKit
set_option linter.unusedVariables false

/-- A place that holds the reference's slots. -/
structure RSl (W : World) (U n p r x : Nat) : Prop where
  n0 : W.cell? ⟨U, 0, none⟩ = some (.int .i64 n)
  p1 : W.cell? ⟨U, 1, none⟩ = some (.int .u32 p)
  r2 : W.cell? ⟨U, 2, none⟩ = some (.int .i64 r)
  z3 : W.cell? ⟨U, 3, none⟩ = some (.int .u32 x)
theorem RSl.later {W W' : World} {U n p r x : Nat} (h : RSl W U n p r x) (g : Gr W W') : RSl W' U n p r x :=
  ⟨g.keeps h.n0, g.keeps h.p1, g.keeps h.r2, g.keeps h.z3⟩
/-- What the reference's New returns. -/
def NewRf (n : Int) (p : Nat) (r : Int) (w : World) (e : Ending) (w' : World) : Prop :=
  Gr w w' ∧ ((∃ m k x U : Nat, n = m ∧ r = k ∧ Os.D4 m ∧ RtR m p k x 0 ∧ e = .returned (.tuple #[.pointer (some ⟨U, 0, none⟩), .int .i64 0]) ∧ RSl w' U m p k x) ∨ (¬ Fits n p r ∧ e = .returned (.tuple #[.pointer none, .int .i64 2])))
set_option maxRecDepth 100000 in
set_option maxHeartbeats 2000000 in
theorem rNew8_any (n : Int) (p : Nat) (r : Int) (w : World) (hn : -9223372036854775808 ≤ n ∧ n ≤ 9223372036854775807) (hp : p ≤ 4294967295) (hr : -9223372036854775808 ≤ r ∧ r ≤ 9223372036854775807) :
    Calls Try.prog 29 #[.int .i64 n, .int .u32 p, .int .i64 r] w (NewRf n p r w) := by
  have HR := Lib.hid hr
  clear hr
  go_enter Try.func29, Try.ntmps29
  go_wp2_with fail
  refine (rroot7_any n p r _ hn hp HR.out (fun h1 h2 => Os.lroot_ex h1.1.mem.1 h1.2.1.2.2 h1.2.1.1 h2)).mono ?_
  rintro e w1 ⟨x, E, rfl, hres, hg⟩
  have HG := Lib.hid hg
  clear hg
  by_cases hc : E = 0
  · subst hc
    by_cases h4 : n < 4
    · have HNO := Lib.hid (show ¬ Fits n p r from fun h => by have := h.1; omega)
      have b1 : decide (n < 4) = true := by simpa using h4
      clear hres
      go_wp2_with fail
      go_ret2
      exact ⟨HG.out, .inr ⟨HNO.out, rfl⟩⟩
    · have b1 : decide (n < 4) = false := by simpa using h4
      obtain ⟨hd, hm⟩ : DimI n ∧ MdOk p r := by
        rcases hres with ⟨_, _, h⟩ | ⟨_, _, _, h⟩ | ⟨h, _⟩
        · omega
        · omega
        · exact h
      unfold DimI at hd
      obtain ⟨m, rfl⟩ : ∃ m : Nat, n = m := ⟨n.toNat, by omega⟩
      obtain ⟨k, rfl⟩ : ∃ k : Nat, r = k := ⟨r.toNat, by have := hm.2.1; omega⟩
      have HD := Lib.hid (show Os.D4 m by unfold Os.D4; omega)
      have HRT := Lib.hid hres
      have HC := Lib.hid (Blk.new 69 w1 #[.int .i64 m, .int .u32 p, .int .i64 k, .int .u32 x])
      clear hres hd hm
      go_wp2_with fail
      go_ret2
      exact ⟨HG.out.alloc _, .inl ⟨m, k, x, w1.heap.size, rfl, rfl, HD.out, HRT.out, rfl, HC.out.cell 0, HC.out.cell 1, HC.out.cell 2, HC.out.cell 3⟩⟩
  · have HNO := Lib.hid (show ¬ Fits n p r from fun ⟨f1, f2, f3⟩ => by
      rcases hres with ⟨h, _⟩ | ⟨_, h, _⟩ | ⟨_, _, h, _⟩
      · exact h ⟨by unfold DimI; omega, f2⟩
      · exact h f3
      · exact hc h)
    have hcb : (E != 0) = true := by simpa using hc
    clear hc hres
    go_wp2_with fail
    go_ret2
    exact ⟨HG.out, .inr ⟨HNO.out, rfl⟩⟩

/-- Both slots, or none. -/
def MadeP (N : Int) (P : Nat) (R : Int) (w : World) (e : Ending) (w' : World) : Prop :=
  Gr w w' ∧ ((∃ n r q x s T U : Nat, N = n ∧ R = r ∧ SN n P r q x s ∧ e = .returned (.tuple #[.pointer (some ⟨T, 0, none⟩), .pointer (some ⟨U, 0, none⟩), .bool true]) ∧ IsSl w' T n P r q x s ∧ RSl w' U n P r x) ∨ e = .returned (.tuple #[.pointer none, .pointer none, .bool true]))
set_option maxRecDepth 100000 in
set_option maxHeartbeats 2000000 in
theorem made8_any (N : Int) (P : Nat) (R E : Int) (uA uB : Value) (w : World) (hN : -9223372036854775808 ≤ N ∧ N ≤ 9223372036854775807) (hP : P ≤ 4294967295) (hR : -9223372036854775808 ≤ R ∧ R ≤ 9223372036854775807) :
    Calls Try.prog 13 #[.agg #[.int .i64 N, .int .u32 P, .int .i64 R, .int .i64 E, uA, uB]] w (MadeP N P R w) := by
  have HR := Lib.hid hR
  have HN := Lib.hid hN
  have HCB := Lib.hid (CB.new w N P R E uA uB)
  clear hR hN
  go_enter Try.func13, Try.ntmps13
  go_wp2_with fail
  refine (snew_any N P R _ hP HR.out).mono ?_
  rintro e w1 ⟨hg, ⟨n, r, q, x, s, T, rfl, rfl, hN, rfl, hT, -⟩ | ⟨hno, rfl⟩⟩
  · have HC := Lib.hid (HCB.out.later hg)
    have HG := Lib.hid ((Gr.new w _).trans hg)
    have HSN := Lib.hid hN
    have HT := Lib.hid hT
    have c0 := HC.out.c0
    have c1 := HC.out.c1
    have c2 := HC.out.c2
    clear hg hN hT
    go_wp2_with fail
    refine (rNew8_any (n : Int) P (r : Int) _ HN.out hP HR.out).mono ?_
    rintro e w2 ⟨hg, ⟨n', r', x', U, e1, e2, hd, hrt, rfl, hU⟩ | ⟨hno, rfl⟩⟩
    · obtain rfl : n = n' := by omega
      obtain rfl : r = r' := by omega
      obtain rfl : x = x' := (HSN.out.root.unique hrt).1
      have HG := Lib.hid (HG.out.trans hg)
      have HT := Lib.hid (HT.out.later hg)
      have HU := Lib.hid hU
      clear hg hrt hU hd
      go_wp2_with fail
      refine bodyPost_ret (v := .tuple #[.pointer (some ⟨T, 0, none⟩), .pointer (some ⟨U, 0, none⟩), .bool true]) (by simp [results, Try.results13, go_sem]) rfl ?_
      exact ⟨HG.out, .inl ⟨n, r, q, x, s, T, U, rfl, rfl, HSN.out, rfl, HT.out, HU.out⟩⟩
    · exact absurd HSN.out.fits hno
  · have HC := Lib.hid (HCB.out.later hg)
    have HG := Lib.hid ((Gr.new w _).trans hg)
    have HNO := Lib.hid hno
    have c0 := HC.out.c0
    have c1 := HC.out.c1
    have c2 := HC.out.c2
    clear hg hno
    go_wp2_with fail
    refine (rNew8_any N P R _ HN.out hP HR.out).mono ?_
    rintro e w2 ⟨hg, ⟨n', r', x', U, rfl, rfl, hd, hrt, rfl, hU⟩ | ⟨hno, rfl⟩⟩
    · exact absurd (by
        have hd' := hd
        unfold Os.D4 at hd'
        rcases hrt with ⟨_, _, h3⟩ | ⟨_, _, _, h3⟩ | ⟨⟨_, h1⟩, h2, _⟩
        · omega
        · omega
        · exact ⟨by omega, h1, h2⟩) HNO.out
    · have HG := Lib.hid (HG.out.trans hg)
      clear hg
      go_wp2_with fail
      refine bodyPost_ret (v := .tuple #[.pointer none, .pointer none, .bool true]) (by simp [results, Try.results13, go_sem]) rfl ?_
      exact ⟨HG.out, .inr rfl⟩

def IsW (x : Int) (w : World) (e : Ending) (w' : World) : Prop := e = .returned (.int .i64 x) ∧ w = w'
set_option maxRecDepth 100000 in
set_option maxHeartbeats 1000000 in
theorem turned_any (U n p r x j X : Nat) (w : World) (hd : Os.D4 n) (h : RSl w U n p r x) (hj : j ≤ 64) (hX : X = 3 ^ j % (2 * n)) :
    Calls Try.prog 44 #[.pointer (some ⟨U, 0, none⟩), .int .i64 j] w (IsW (X : Int) w) := by
  have HXX := Lib.hid hX
  clear hX
  have c0 := h.n0
  obtain ⟨d1, d2⟩ := hd.le
  have HD := Lib.hid hd
  have hn0 : ¬ n = 0 := by omega
  clear h hd
  go_enter Try.func44, Try.ntmps44
  go_wp2_with fail
  go_loop [5, 6] (fun a t => ∃ i M : Nat, t = .int .i64 i ∧ a = .int .i64 M ∧ i ≤ j ∧ M = 3 ^ i % (2 * n)) (fun _ t => j - (intOf t).toNat)
  case atStart => exact ⟨0, 1, rfl, rfl, by omega, by rw [Nat.pow_zero, Nat.mod_eq_of_lt (by omega)]⟩
  case round =>
    obtain ⟨i, M, rfl, rfl, hi, hM⟩ := hrel
    have hml : M < 2 * n := by rw [hM]; exact Nat.mod_lt _ (by omega)
    have HM := Lib.hid hM
    clear hM
    by_cases hlt : i < j
    · have i5 : (i : Int) < (j : Int) := by omega
      have HX := Lib.hid (show 3 * (M : Int) % (2 * (n : Int)) = ((3 ^ (i + 1) % (2 * n) : Nat) : Int) from by
        rw [← Os.Ex.next HD.out, ← HM.out]; simp)
      go_wp2_with fail
      go_round
      case rel => exact ⟨i + 1, _, by go_num, by rw [HX.out], by omega, rfl⟩
      case measure => simp [intOf]; omega
    · obtain rfl : i = j := by omega
      have i5 : ¬ (i : Int) < (i : Int) := by omega
      go_wp2_with fail
      go_ret
      exact ⟨by rw [HXX.out, ← HM.out]; rfl, rfl⟩

/-- A number, and draws. -/
def IsD (x : Int) (w : World) (e : Ending) (w' : World) : Prop := e = .returned (.int .i64 x) ∧ ∃ m, w' = w.drewN m
set_option maxRecDepth 100000 in
set_option maxHeartbeats 1000000 in
theorem rExponent_d (U n p r x k : Nat) (w : World) (hd : Os.D4 n) (h : RSl w U n p r x) (hk : k < n) :
    Calls Try.prog 39 #[.pointer (some ⟨U, 0, none⟩), .int .i64 k] w (IsD (Os.Ex n k : Nat) w) := by
  have c0 := h.n0
  have H := Lib.hid h
  obtain ⟨d1, d2⟩ := hd.le
  have HD := Lib.hid hd
  have hhf := hd.half
  obtain ⟨m, hm⟩ : ∃ m, m = n / 2 := ⟨_, rfl⟩
  rw [← hm] at hhf
  have e1 : (n : Int) / 2 = (m : Int) := by omega
  have HM := Lib.hid hm
  clear h hd hm
  by_cases hlt : k < m
  · have i1 : (k : Int) < (m : Int) := by omega
    have HX := Lib.hid (show Os.Ex n k = 3 ^ k % (2 * n) from Os.Ex.lo (by rw [← HM.out]; exact hlt))
    go_enter Try.func39, Try.ntmps39
    go_wp2_with fail
    refine (turned_any U n p r x k (Os.Ex n k) _ HD.out H.out (by omega) HX.out).mono ?_
    rintro e w1 ⟨rfl, rfl⟩
    go_wp2_with fail
    go_ret
    exact ⟨rfl, 0, rfl⟩
  · obtain ⟨j, hj⟩ : ∃ j, j = k - m := ⟨_, rfl⟩
    have i1 : ¬ (k : Int) < (m : Int) := by omega
    have i2 : (k : Int) - (m : Int) = (j : Int) := by omega
    have HX := Lib.hid (show Os.Ex n k = 2 * n - 3 ^ j % (2 * n) from by
      have := Os.Ex.hi (n := n) (k := j)
      rwa [← HM.out, show m + j = k by omega] at this)
    obtain ⟨X, hX⟩ : ∃ X, X = 3 ^ j % (2 * n) := ⟨_, rfl⟩
    have hXl : X < 2 * n := by rw [hX]; exact Nat.mod_lt _ (by omega)
    have HXX := Lib.hid hX
    rw [← hX] at HX
    have w1 : IntKind.i64.wrap (2 * (n : Int)) = 2 * (n : Int) := IntWalk.i64_in _ (by omega)
    have w2 : IntKind.i64.wrap (2 * (n : Int) - (X : Int)) = 2 * (n : Int) - (X : Int) := IntWalk.i64_in _ (by omega)
    have w3 : IntKind.i64.wrap (j : Int) = (j : Int) := IntWalk.i64_in _ (by omega)
    have w4 : (n : Int).tdiv 2 = (m : Int) := by rw [Int.tdiv_eq_ediv_of_nonneg (by omega)]; exact e1
    have w5 : IntKind.i64.wrap (m : Int) = (m : Int) := IntWalk.i64_in _ (by omega)
    have hjl : j ≤ 64 := by omega
    have HJL := Lib.hid hjl
    clear hX hj
    go_enter Try.func39, Try.ntmps39
    go_wp2_with fail
    have HW := Lib.hid (H.out.later ((Gr.refl w).drewN 1))
    go_region_held3 (fun wz => wz.cell? ⟨U, 0, none⟩ = some (.int .i64 n)) (go_keep)
      (first | (go_at_call 44; refine (turned_any U n p r x j X _ HD.out HW.out HJL.out HXX.out).mono ?_; rintro e w5 ⟨rfl, rfl⟩))
    go_wp2_with fail
    go_ret
    exact ⟨by rw [HX.out, Int.natCast_sub (by omega)]; rfl, 1, rfl⟩
theorem rExponent_q (U n p r x k m : Nat) (w : World) (hd : Os.D4 n) (h : RSl w U n p r x) (hk : k < n) :
    Calls Try.prog 39 #[.pointer (some ⟨U, 0, none⟩), .int .i64 k] (w.drewN m) (fun e w'' => e = .returned (.int .i64 (Os.Ex n k : Nat)) ∧ ∃ q, w'' = w.drewN q) :=
  Calls.quiet_of (rExponent_d U n p r x k (w.drewN m) hd (h.later ((Gr.refl w).drewN m)) hk)
end Go.Proofs.Ytfmmkdmnondomaa
/- The reference: Power and Moves. -/
namespace Go.Proofs.Ytfmmkdmnondomaa
open Go.RowKit
set_option linter.unusedVariables false

theorem neg_turn {t h : Int} (hh : 1 ≤ h) : (if t.tmod h < 0 then t.tmod h + h else t.tmod h) = t % h := tmod_fix (by omega)

set_option maxRecDepth 100000 in
set_option maxHeartbeats 2000000 in
theorem rPower8_any (U n p r x : Nat) (t : Int) (b : Bool) (w : World) (hd : Os.D4 n) (h : RSl w U n p r x) (ht : -9223372036854775808 ≤ t ∧ t ≤ 9223372036854775807) :
    Calls Try.prog 23 #[.pointer (some ⟨U, 0, none⟩), .int .i64 t, .bool b] w (TwoI (Os.pk n (trn n t) b : Nat) 0 w) := by
  have H := Lib.hid h
  have HD := Lib.hid hd
  obtain ⟨t1, t2⟩ := trn_lt hd t
  obtain ⟨d1, d2⟩ := hd.le
  have hhalf := hd.half
  have c0 := h.n0
  obtain ⟨u, hu⟩ : ∃ u, u = trn n t := ⟨_, rfl⟩
  obtain ⟨m, hm⟩ : ∃ m, m = n / 2 := ⟨_, rfl⟩
  rw [← hu] at t1 t2 ⊢
  rw [← hm] at t1 t2 hhalf
  have HM := Lib.hid hm
  have e1 : (n : Int) / 2 = (m : Int) := by omega
  have e3 : -(m : Int) < t.tmod (m : Int) := Int.lt_tmod_of_pos t (by omega)
  have e4 : t.tmod (m : Int) < (m : Int) := Int.tmod_lt_of_pos t (by omega)
  have HF := Lib.hid (show (if t.tmod (m : Int) < 0 then t.tmod (m : Int) + m else t.tmod (m : Int)) = (u : Int) from by rw [neg_turn (by omega), t2])
  obtain ⟨v, hv⟩ : ∃ v, t.tmod (m : Int) = v := ⟨_, rfl⟩
  rw [hv] at e3 e4 HF
  have hm0 : ¬ m = 0 := by omega
  have hm2 : m ≤ 16 := by omega
  obtain ⟨X, hX⟩ : ∃ X, X = 3 ^ u % (2 * n) := ⟨_, rfl⟩
  have hXl : X < 2 * n := by rw [hX]; exact Nat.mod_lt _ (by omega)
  have HX := Lib.hid hX
  have HUL := Lib.hid (show u ≤ 64 by omega)
  have HPF := Lib.hid (show Os.pk n u false = X from by rw [hX]; exact Os.Ex.lo (by rw [← hm]; exact t1))
  have HPT := Lib.hid (show Os.pk n u true = 2 * n - X from by rw [hX]; exact Os.Ex.hi)
  have w1 : IntKind.i64.wrap (2 * (n : Int)) = 2 * (n : Int) := IntWalk.i64_in _ (by omega)
  have w2 : IntKind.i64.wrap (2 * (n : Int) - (X : Int)) = 2 * (n : Int) - (X : Int) := IntWalk.i64_in _ (by omega)
  have HW := Lib.hid (H.out.later ((Gr.refl w).drewN 1))
  clear hu hm hd h t2 hhalf hX
  by_cases hn : v < 0
  · have e5 : v + (m : Int) = (u : Int) := by have := HF.out; rw [if_pos hn] at this; exact this
    clear HF
    cases b with
    | false =>
      go_enter Try.func23, Try.ntmps23
      go_wp2_with fail
      refine (turned_any U n p r x u X _ HD.out H.out HUL.out HX.out).mono ?_
      rintro e w5 ⟨rfl, rfl⟩
      go_wp2_with fail
      go_ret2
      exact ⟨by rw [HPF.out]; rfl, Gr.refl w⟩
    | true =>
      go_enter Try.func23, Try.ntmps23
      go_wp2_with fail
      go_region_held3 (fun wz => wz.cell? ⟨U, 0, none⟩ = some (.int .i64 n)) (go_keep)
        (first | (go_at_call 44; refine (turned_any U n p r x u X _ HD.out HW.out HUL.out HX.out).mono ?_; rintro e w5 ⟨rfl, rfl⟩))
      go_wp2_with fail
      go_ret2
      exact ⟨by rw [HPT.out, Int.natCast_sub (by omega)]; rfl, (Gr.refl w).drewN 1⟩
  · have e5 : v = (u : Int) := by have := HF.out; rw [if_neg hn] at this; exact this
    subst e5
    clear HF
    cases b with
    | false =>
      go_enter Try.func23, Try.ntmps23
      go_wp2_with fail
      refine (turned_any U n p r x u X _ HD.out H.out HUL.out HX.out).mono ?_
      rintro e w5 ⟨rfl, rfl⟩
      go_wp2_with fail
      go_ret2
      exact ⟨by rw [HPF.out]; rfl, Gr.refl w⟩
    | true =>
      go_enter Try.func23, Try.ntmps23
      go_wp2_with fail
      go_region_held3 (fun wz => wz.cell? ⟨U, 0, none⟩ = some (.int .i64 n)) (go_keep)
        (first | (go_at_call 44; refine (turned_any U n p r x u X _ HD.out HW.out HUL.out HX.out).mono ?_; rintro e w5 ⟨rfl, rfl⟩))
      go_wp2_with fail
      go_ret2
      exact ⟨by rw [HPT.out, Int.natCast_sub (by omega)]; rfl, (Gr.refl w).drewN 1⟩
end Go.Proofs.Ytfmmkdmnondomaa
/- The reference: Moves. -/
namespace Os
open Op
set_option linter.unusedVariables false
/-- The first slots are moved. -/
def MvI (n k I : Nat) (l : List Int) : Prop := l.length = I ∧ ∀ j, j < I → ∃ t : Nat, t < n ∧ cf l j = t ∧ Ex n t = Ex n j * k % (2 * n)
theorem MvI.next {n k I : Nat} {l : List Int} (h : MvI n k I l) {t : Nat} (ht : t < n) (e : Ex n t = Ex n I * k % (2 * n)) : MvI n k (I + 1) (l ++ [(t : Int)]) := by
  obtain ⟨h1, h2⟩ := h
  refine ⟨by rw [List.length_append, h1]; rfl, fun j hj => ?_⟩
  rw [cf_append, h1]
  by_cases e2 : j < I
  · rw [if_pos e2]; exact h2 j e2
  · obtain rfl : j = I := by omega
    rw [if_neg e2, Nat.sub_self]
    exact ⟨t, ht, rfl, e⟩
end Os
namespace Go.Proofs.Ytfmmkdmnondomaa
open Go.RowKit
set_option linter.unusedVariables false

set_option maxRecDepth 100000 in
set_option maxHeartbeats 2000000 in
theorem rMoves8_bad (U n p r x : Nat) (k : Int) (w : World) (hd : Os.D4 n) (h : RSl w U n p r x) (hb : ¬ Kd n k) :
    Calls Try.prog 24 #[.pointer (some ⟨U, 0, none⟩), .int .i64 k] w (LstE (MovR n k) (kE n k) w) := by
  obtain ⟨d1, d2⟩ := hd.le
  have HB := Lib.hid (kE_no hb)
  have HR := Lib.hid (show MovR n k [] from .inr ⟨hb, rfl⟩)
  have hcase : k < 1 ∨ (¬ k < 1 ∧ 2 * (n : Int) - 1 < k) ∨ (¬ k < 1 ∧ ¬ 2 * (n : Int) - 1 < k ∧ k % 2 = 0) := by
    unfold Kd at hb
    omega
  have c0 := h.n0
  clear hb h
  rcases hcase with h1 | ⟨h1, h2⟩ | ⟨h1, h2, h3⟩
  · have b1 : decide (k < 1) = true := by simpa using h1
    go_enter Try.func24, Try.ntmps24
    go_wp2_with fail
    go_ret2
    rw [HB.out]
    exact LstE.nil 2 HR.out (Gr.refl w)
  · have b1 : decide (k < 1) = false := by simpa using h1
    have b2 : decide (2 * (n : Int) - 1 < k) = true := by simpa using h2
    go_enter Try.func24, Try.ntmps24
    go_wp2_with fail
    go_ret2
    rw [HB.out]
    exact LstE.nil 2 HR.out (Gr.refl w)
  · have b1 : decide (k < 1) = false := by simpa using h1
    have b2 : decide (2 * (n : Int) - 1 < k) = false := by simpa using h2
    have b3 : (k % 2 != 1) = true := by rw [h3]; rfl
    go_enter Try.func24, Try.ntmps24
    go_wp2_with fail
    go_ret2
    rw [HB.out]
    exact LstE.nil 2 HR.out (Gr.refl w)

set_option maxRecDepth 100000 in
set_option maxHeartbeats 4000000 in
theorem rMoves8_ok (U n p r x : Nat) (k : Int) (w : World) (hd : Os.D4 n) (h : RSl w U n p r x) (hb : Kd n k) :
    Calls Try.prog 24 #[.pointer (some ⟨U, 0, none⟩), .int .i64 k] w (LstE (MovR n k) (kE n k) w) := by
  obtain ⟨d1, d2⟩ := hd.le
  have H := Lib.hid h
  have HD := Lib.hid hd
  have HKE := Lib.hid (kE_yes hb)
  have HKD := Lib.hid hb
  obtain ⟨k1, k2, k3⟩ := hb
  obtain ⟨K, rfl⟩ := Int.eq_ofNat_of_zero_le (show 0 ≤ k by omega)
  have hK2 : K < 2 * n := by omega
  have HKO := Lib.hid (show K % 2 = 1 by omega)
  have b1 : decide ((K : Int) < 1) = false := by simp; omega
  have b2 : decide (2 * (n : Int) - 1 < (K : Int)) = false := by simp; omega
  have b3 : ((K : Int) % 2 != 1) = false := by simp; omega
  have c0 := h.n0
  have hn0 : ¬ n = 0 := by omega
  clear h hd k3
  go_enter Try.func24, Try.ntmps24
  go_wp2_with fail
  clear b1 b2 b3
  go_loopw [6, 7, 8] (fun v z _ wr => ∃ (j : Nat) (l : List Int) (va : Option Addr) (vc : Nat), z = .int .i64 j ∧ j ≤ n ∧ v = .slice va j vc ∧ Li.Own1 wr w.heap.size (.slice va j vc) l ∧ Os.MvI n K j l ∧ Gr w wr) (fun _ z _ _ => n - (intOf z).toNat)
  case atStart => exact ⟨0, [], none, 0, rfl, by omega, rfl, Li.Own1.nil _ _, ⟨rfl, fun j hj => by omega⟩, Gr.refl _⟩
  case round =>
    obtain ⟨j, l, va, vc, rfl, hj, rfl, hown, hmv, hg⟩ := hrel
    have HO := Lib.hid hown
    have HMV := Lib.hid hmv
    have HG := Lib.hid hg
    have c0 := hg.keeps c0
    clear hown hmv hg
    by_cases hlt : j < n
    · have i1 : (j : Int) < (n : Int) := by omega
      obtain ⟨t, ht, hte⟩ := Os.Ex.move HD.out hlt HKO.out
      have HTE := Lib.hid hte
      obtain ⟨o1, o2⟩ := Os.Ex.odd HD.out hlt
      obtain ⟨Y, hY⟩ : ∃ Y, Y = Os.Ex n t := ⟨_, rfl⟩
      have HY := Lib.hid hY
      have m0 := mul_lo (a := ((Os.Ex n j : Nat) : Int)) (b := (K : Int)) (by omega) (by omega)
      have m1 : ((Os.Ex n j : Nat) : Int) * (K : Int) ≤ 64 * 64 := Int.mul_le_mul (by omega) (by omega) (by omega) (by omega)
      have y1 : ((Os.Ex n j : Nat) : Int) * (K : Int) % (2 * (n : Int)) = (Y : Int) := by rw [hY, hte]; simp
      have y2 : (((Os.Ex n j : Nat) : Int) * (K : Int)).tmod (2 * (n : Int)) = (Y : Int) := by rw [Int.tmod_eq_emod_of_nonneg m0]; exact y1
      have w1 : IntKind.i64.wrap (2 * (n : Int)) = 2 * (n : Int) := IntWalk.i64_in _ (by omega)
      have w2 : IntKind.i64.wrap (((Os.Ex n j : Nat) : Int) * (K : Int)) = ((Os.Ex n j : Nat) : Int) * (K : Int) := IntWalk.i64_in _ (by omega)
      have hYl : Y < 2 * n := by rw [hY]; exact (Os.Ex.odd HD.out ht).2
      have w3 : IntKind.i64.wrap (Y : Int) = (Y : Int) := IntWalk.i64_in _ (by omega)
      have w4 : ¬ 2 * (n : Int) = 0 := by omega
      have HPL := Lib.hid (show l.length = j from HMV.out.1)
      have HIJ := Lib.hid hlt
      clear hY hte
      obtain ⟨wo, rfl⟩ : ∃ wo : World, wo = wr := ⟨_, rfl⟩
      go_wp2_with fail
      go_loopw [6, 8] (fun v z wt => ∃ (o m : Nat) (l' : List Int) (va' : Option Addr) (vc' : Nat), z = .int .i64 o ∧ o ≤ n ∧ v = .slice va' m vc' ∧ m = l'.length ∧ Li.Own1 wt w.heap.size (.slice va' m vc') l' ∧ (l' = if t < o then l ++ [(t : Int)] else l) ∧ Gr w wt) (fun _ z _ => n - (intOf z).toNat)
      case atStart => exact ⟨0, j, l, va, vc, rfl, by omega, rfl, HPL.out.symm, HO.out, by rw [if_neg (by omega)], HG.out⟩
      case round =>
        obtain ⟨o, m, l', va', vc', rfl, ho, rfl, hm, hown, hl', hg⟩ := hrel
        have HO' := Lib.hid hown
        have HL' := Lib.hid hl'
        have HG' := Lib.hid hg
        have HM := Lib.hid hm
        have c0 := (H.out.later hg).n0
        have HLL := Lib.hid (show l'.length ≤ 40 from by rw [hl']; split <;> simp [HPL.out] <;> omega)
        clear hown hl' hg hm
        by_cases hol : o < n
        · have i2 : (o : Int) < (n : Int) := by omega
          have HS := Lib.hid (H.out.later HG'.out)
          have HIO := Lib.hid hol
          by_cases e : o = t
          · have HE := Lib.hid e
            have b1 : (((Os.Ex n o : Nat) : Int) == (Y : Int)) = true := by rw [HY.out, e]; simp
            clear e
            go_wp2_with fail
            go_quiet ((go_at_call 39; exact rExponent_q U n p r x _ _ _ HD.out HS.out (by assumption)))
            obtain ⟨W5, hW5⟩ : ∃ W5, W5 = wr.drewN nq := ⟨_, rfl⟩
            have HOW := Lib.hid (show Li.Own1 W5 w.heap.size (.slice va' m vc') l' from by rw [hW5]; exact HO'.out)
            have HG5 := Lib.hid (show Gr w W5 from by rw [hW5]; exact HG'.out.drewN nq)
            rw [← hW5]
            have HOA := Lib.hid (HOW.out.alloc (.cells #[.int .i64 (o : Int)] 3))
            have HONE := Lib.hid (Li.one_hasQ W5 (o : Int) (by omega))
            have HLEN := Lib.hid (show l'.length + ([(o : Int)] : List Int).length ≤ 1000000 from by have := HLL.out; simp; omega)
            have HBS := Lib.hid (show w.heap.size ≤ (W5.alloc (.cells #[.int .i64 (o : Int)] 3)).heap.size from by have := HG5.out.size; simp; omega)
            clear hW5
            go_wp2_with (at_builtin; refine Li.wpList_app rfl (.tmp 57) (.tmp 59) rfl rfl w.heap.size (.slice va' m vc') l' rfl HOA.out (.slice (some ⟨W5.heap.size, 0, none⟩) 1 1) [(o : Int)] rfl HONE.out HLEN.out HBS.out ?_; intro v' wn hown hgrow; obtain ⟨va2, vc2, hv, hv1, hv2⟩ := hown.form; rw [List.length_append, ← HM.out] at hv; subst hv; have HN5 := Lib.hid (And.intro hown hgrow); clear hown hgrow hv1 hv2)
            go_roundw
            case rel => exact ⟨o + 1, m + 1, l' ++ [(o : Int)], va2, vc2, by go_num, by omega, rfl, by rw [List.length_append, ← HM.out]; rfl, HN5.out.1, by
              have h1 := HL'.out
              have h2 := HE.out
              rw [if_neg (by omega)] at h1
              rw [if_pos (by omega), h1, h2], Li.grown_own (HG5.out.alloc _) HOA.out HN5.out.2 (Nat.le_refl _)⟩
            case measure => simp [intOf]; omega
          · have HE := Lib.hid e
            have b1 : (((Os.Ex n o : Nat) : Int) == (Y : Int)) = false := by
              rw [HY.out]; simp
              intro h2
              exact e (Os.Ex.inj HD.out hol ht (by omega))
            clear e
            go_wp2_with fail
            go_quiet ((go_at_call 39; exact rExponent_q U n p r x _ _ _ HD.out HS.out (by assumption)))
            go_wp2_with fail
            go_roundw
            case rel => exact ⟨o + 1, m, l', va', vc', by go_num, by omega, rfl, HM.out, HO'.out, by
              have h1 := HL'.out
              have h2 := HE.out
              by_cases h3 : t < o
              · rw [if_pos h3] at h1; rw [if_pos (by omega)]; exact h1
              · rw [if_neg h3] at h1; rw [if_neg (by omega)]; exact h1, HG'.out.drewN _⟩
            case measure => simp [intOf]; omega
        · obtain rfl : o = n := by omega
          have i2 : ¬ (o : Int) < (o : Int) := by omega
          have HLX := Lib.hid (show l' = l ++ [(t : Int)] from by rw [HL'.out, if_pos ht])
          have hmj : m = j + 1 := by rw [HM.out, HLX.out, List.length_append, HPL.out]; rfl
          subst hmj
          go_wp2_with fail
          go_roundw
          case rel => exact ⟨j + 1, l', va', vc', by go_num, by omega, rfl, HO'.out, by rw [HLX.out]; exact HMV.out.next ht HTE.out, HG'.out⟩
          case measure => simp [intOf]; omega
    · obtain rfl : j = n := by omega
      have i1 : ¬ (j : Int) < (j : Int) := by omega
      have HQ := Lib.hid HO.out.hasQ.lo
      have HF := Lib.hid (HO.out.fresh rfl)
      go_wp2_with fail
      go_ret2
      rw [HKE.out]
      exact ⟨va, j, vc, l, rfl, HQ.out, .inl ⟨HKD.out, HMV.out.1, HMV.out.2⟩, HF.out, HG.out⟩
theorem rMoves8_any (U n p r x : Nat) (k : Int) (w : World) (hd : Os.D4 n) (h : RSl w U n p r x) :
    Calls Try.prog 24 #[.pointer (some ⟨U, 0, none⟩), .int .i64 k] w (LstE (MovR n k) (kE n k) w) := by
  by_cases hb : Kd n k
  · exact rMoves8_ok U n p r x k w hd h hb
  · exact rMoves8_bad U n p r x k w hd h hb
end Go.Proofs.Ytfmmkdmnondomaa
