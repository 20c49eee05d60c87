import Derived.Test.YtfmmkdmnondomaaLSE
/- The reference: New, turned, Exponent, Power; the law's made. -/
namespace Os
theorem fz_exists : ∀ m : Nat, 1 ≤ m → ∃ M, Ob.Fz m M := by
  intro m
  induction m using Nat.strongRecOn with
  | ind m ih =>
    intro hm
    by_cases h1 : m = 1
    · exact ⟨[], h1 ▸ Ob.Fz.one⟩
    · obtain ⟨p, hp0, hmin⟩ : ∃ p, (2 ≤ p ∧ p ∣ m) ∧ ∀ d, 2 ≤ d → d < p → ¬ d ∣ m := by
        have key : ∀ k, k ≤ m → (∃ p, (2 ≤ p ∧ p ∣ m) ∧ ∀ d, 2 ≤ d → d < p → ¬ d ∣ m) ∨ ∀ d, 2 ≤ d → d ≤ k → ¬ d ∣ m := by
          intro k
          induction k with
          | zero => intro _; right; intro d h2 h3; omega
          | succ k ihk =>
            intro hk
            rcases ihk (by omega) with h | h
            · exact .inl h
            · by_cases hd : 2 ≤ k + 1 ∧ (k + 1) ∣ m
              · exact .inl ⟨k + 1, hd, fun d h2 h3 => h d h2 (by omega)⟩
              · right; intro d h2 h3 h4
                by_cases e : d = k + 1
                · exact hd ⟨by omega, e ▸ h4⟩
                · exact h d h2 (by omega) h4
        rcases key m (Nat.le_refl _) with h | h
        · exact h
        · exact absurd (Nat.dvd_refl m) (h m (by omega) (Nat.le_refl _))
      have hex : ∀ k c, 1 ≤ c → c ≤ k → ∃ e c', c = p ^ e * c' ∧ ¬ p ∣ c' ∧ 1 ≤ c' := by
        intro k
        induction k with
        | zero => intro c h1 h2; omega
        | succ k ihk =>
          intro c h1 h2
          by_cases hd : p ∣ c
          · obtain ⟨d, rfl⟩ := hd
            have hd1 : 1 ≤ d := by
              rcases d with _ | d
              · simp at h1
              · omega
            have : 2 * d ≤ p * d := Nat.mul_le_mul_right d hp0.1
            obtain ⟨e, c', h3, h4, h5⟩ := ihk d hd1 (by omega)
            exact ⟨e + 1, c', by rw [h3, Nat.pow_succ, Nat.mul_comm (p ^ e) p, Nat.mul_assoc], h4, h5⟩
          · exact ⟨0, c, by simp, hd, h1⟩
      obtain ⟨e, c, h3, h4, h5⟩ := hex m m hm (Nat.le_refl _)
      have he : 1 ≤ e := by
        rcases e with _ | e
        · simp at h3; rw [h3] at hp0; exact absurd hp0.2 h4
        · omega
      have hpe : p ^ 1 ≤ p ^ e := Nat.pow_le_pow_right (by omega) he
      rw [Nat.pow_one] at hpe
      have hlt : c < m := by
        have := Nat.mul_le_mul_right c (show 2 ≤ p ^ e by omega)
        rw [h3]; omega
      obtain ⟨M, hM⟩ := ih c hlt h5
      exact ⟨(p, e) :: M, by rw [h3]; exact Ob.Fz.cons p e c M hp0.1 (by rw [← h3]; exact hmin) he h4 hM⟩

theorem least_ex (Q : Nat → Prop) : ∀ y, Q y → ∃ z, z ≤ y ∧ Q z ∧ ∀ u, u < z → ¬ Q u := by
  intro y
  induction y using Nat.strongRecOn with
  | ind y ih =>
    intro h
    by_cases hx : ∃ u, u < y ∧ Q u
    · obtain ⟨u, hu, hq⟩ := hx
      obtain ⟨z, z1, z2, z3⟩ := ih u hu hq
      exact ⟨z, by omega, z2, z3⟩
    · exact ⟨y, Nat.le_refl _, h, fun u hu hq => hx ⟨u, hu, hq⟩⟩
theorem lroot_ex {n p : Nat} (hn : n ∈ Oq.dims) (hp : Ob.Pr p) (h2 : 2 < p) (h1 : p % (2 * n) = 1) : ∃ y, Oh7.LRoot n p y := by
  have hn2 : 2 ≤ n := by simp [Oq.dims] at hn; omega
  have hd : 2 * n ∣ p - 1 := ⟨p / (2 * n), by have := Nat.mod_add_div p (2 * n); omega⟩
  obtain ⟨L, hL⟩ := fz_exists (p - 1) (by omega)
  obtain ⟨g, g1, g2, g3⟩ := Ob.exists_gen hp hL
  have ho := Ob.gen_ord hp hL g1 g2 g3 hd (by omega)
  have hr := Oh7.IsR.of_ord hn hp h2 ho
  obtain ⟨z, z1, z2, z3⟩ := least_ex (Oh7.IsR n p) _ hr
  exact ⟨z, Nat.lt_of_le_of_lt z1 (Nat.mod_lt _ (by omega)), z2, z3⟩
end Os
namespace Go.Proofs.Ytfmmkdmnondomaa
open Go.RowKit
set_option linter.unusedVariables false

/-- A place that holds the reference's slots. -/
structure RSl (W : World) (U n p r x : Nat) : Prop where
  n0 : W.cell? ⟨U, 0, none⟩ = some (.int .i64 n)
  p1 : W.cell? ⟨U, 1, none⟩ = some (.int .u32 p)
  r2 : W.cell? ⟨U, 2, none⟩ = some (.int .i64 r)
  z3 : W.cell? ⟨U, 3, none⟩ = some (.int .u32 x)
theorem RSl.later {W W' : World} {U n p r x : Nat} (h : RSl W U n p r x) (g : Gr W W') : RSl W' U n p r x :=
  ⟨g.keeps h.n0, g.keeps h.p1, g.keeps h.r2, g.keeps h.z3⟩
/-- What the reference's New returns. -/
def NewRf (n : Int) (p : Nat) (r : Int) (w : World) (e : Ending) (w' : World) : Prop :=
  Gr w w' ∧ ((∃ m k x U : Nat, n = m ∧ r = k ∧ Os.D4 m ∧ RtR m p k x 0 ∧ e = .returned (.tuple #[.pointer (some ⟨U, 0, none⟩), .int .i64 0]) ∧ RSl w' U m p k x) ∨ (¬ Fits n p r ∧ e = .returned (.tuple #[.pointer none, .int .i64 2])))
set_option maxRecDepth 100000 in
set_option maxHeartbeats 2000000 in
theorem rNew8_any (n : Int) (p : Nat) (r : Int) (w : World) (hn : -9223372036854775808 ≤ n ∧ n ≤ 9223372036854775807) (hp : p ≤ 4294967295) (hr : -9223372036854775808 ≤ r ∧ r ≤ 9223372036854775807) :
    Calls Try.prog 29 #[.int .i64 n, .int .u32 p, .int .i64 r] w (NewRf n p r w) := by
  have HR := Lib.hid hr
  clear hr
  go_enter Try.func29, Try.ntmps29
  go_wp2_with fail
  refine (rroot7_any n p r _ hn hp HR.out (fun h1 h2 => Os.lroot_ex h1.1.mem.1 h1.2.1.2.2 h1.2.1.1 h2)).mono ?_
  rintro e w1 ⟨x, E, rfl, hres, hg⟩
  have HG := Lib.hid hg
  clear hg
  by_cases hc : E = 0
  · subst hc
    by_cases h4 : n < 4
    · have HNO := Lib.hid (show ¬ Fits n p r from fun h => by have := h.1; omega)
      have b1 : decide (n < 4) = true := by simpa using h4
      clear hres
      go_wp2_with fail
      go_ret2
      exact ⟨HG.out, .inr ⟨HNO.out, rfl⟩⟩
    · have b1 : decide (n < 4) = false := by simpa using h4
      obtain ⟨hd, hm⟩ : DimI n ∧ MdOk p r := by
        rcases hres with ⟨_, _, h⟩ | ⟨_, _, _, h⟩ | ⟨h, _⟩
        · omega
        · omega
        · exact h
      unfold DimI at hd
      obtain ⟨m, rfl⟩ : ∃ m : Nat, n = m := ⟨n.toNat, by omega⟩
      obtain ⟨k, rfl⟩ : ∃ k : Nat, r = k := ⟨r.toNat, by have := hm.2.1; omega⟩
      have HD := Lib.hid (show Os.D4 m by unfold Os.D4; omega)
      have HRT := Lib.hid hres
      have HC := Lib.hid (Blk.new 69 w1 #[.int .i64 m, .int .u32 p, .int .i64 k, .int .u32 x])
      clear hres hd hm
      go_wp2_with fail
      go_ret2
      exact ⟨HG.out.alloc _, .inl ⟨m, k, x, w1.heap.size, rfl, rfl, HD.out, HRT.out, rfl, HC.out.cell 0, HC.out.cell 1, HC.out.cell 2, HC.out.cell 3⟩⟩
  · have HNO := Lib.hid (show ¬ Fits n p r from fun ⟨f1, f2, f3⟩ => by
      rcases hres with ⟨h, _⟩ | ⟨_, h, _⟩ | ⟨_, _, h, _⟩
      · exact h ⟨by unfold DimI; omega, f2⟩
      · exact h f3
      · exact hc h)
    have hcb : (E != 0) = true := by simpa using hc
    clear hc hres
    go_wp2_with fail
    go_ret2
    exact ⟨HG.out, .inr ⟨HNO.out, rfl⟩⟩

/-- Both slots, or none. -/
def MadeP (N : Int) (P : Nat) (R : Int) (w : World) (e : Ending) (w' : World) : Prop :=
  Gr w w' ∧ ((∃ n r q x s T U : Nat, N = n ∧ R = r ∧ SN n P r q x s ∧ e = .returned (.tuple #[.pointer (some ⟨T, 0, none⟩), .pointer (some ⟨U, 0, none⟩), .bool true]) ∧ IsSl w' T n P r q x s ∧ RSl w' U n P r x) ∨ e = .returned (.tuple #[.pointer none, .pointer none, .bool true]))
set_option maxRecDepth 100000 in
set_option maxHeartbeats 2000000 in
theorem made8_any (N : Int) (P : Nat) (R E : Int) (uA uB : Value) (w : World) (hN : -9223372036854775808 ≤ N ∧ N ≤ 9223372036854775807) (hP : P ≤ 4294967295) (hR : -9223372036854775808 ≤ R ∧ R ≤ 9223372036854775807) :
    Calls Try.prog 13 #[.agg #[.int .i64 N, .int .u32 P, .int .i64 R, .int .i64 E, uA, uB]] w (MadeP N P R w) := by
  have HR := Lib.hid hR
  have HN := Lib.hid hN
  have HCB := Lib.hid (CB.new w N P R E uA uB)
  clear hR hN
  go_enter Try.func13, Try.ntmps13
  go_wp2_with fail
  refine (snew_any N P R _ hP HR.out).mono ?_
  rintro e w1 ⟨hg, ⟨n, r, q, x, s, T, rfl, rfl, hN, rfl, hT, -⟩ | ⟨hno, rfl⟩⟩
  · have HC := Lib.hid (HCB.out.later hg)
    have HG := Lib.hid ((Gr.new w _).trans hg)
    have HSN := Lib.hid hN
    have HT := Lib.hid hT
    have c0 := HC.out.c0
    have c1 := HC.out.c1
    have c2 := HC.out.c2
    clear hg hN hT
    go_wp2_with fail
    refine (rNew8_any (n : Int) P (r : Int) _ HN.out hP HR.out).mono ?_
    rintro e w2 ⟨hg, ⟨n', r', x', U, e1, e2, hd, hrt, rfl, hU⟩ | ⟨hno, rfl⟩⟩
    · obtain rfl : n = n' := by omega
      obtain rfl : r = r' := by omega
      obtain rfl : x = x' := (HSN.out.root.unique hrt).1
      have HG := Lib.hid (HG.out.trans hg)
      have HT := Lib.hid (HT.out.later hg)
      have HU := Lib.hid hU
      clear hg hrt hU hd
      go_wp2_with fail
      refine bodyPost_ret (v := .tuple #[.pointer (some ⟨T, 0, none⟩), .pointer (some ⟨U, 0, none⟩), .bool true]) (by simp [results, Try.results13, go_sem]) rfl ?_
      exact ⟨HG.out, .inl ⟨n, r, q, x, s, T, U, rfl, rfl, HSN.out, rfl, HT.out, HU.out⟩⟩
    · exact absurd HSN.out.fits hno
  · have HC := Lib.hid (HCB.out.later hg)
    have HG := Lib.hid ((Gr.new w _).trans hg)
    have HNO := Lib.hid hno
    have c0 := HC.out.c0
    have c1 := HC.out.c1
    have c2 := HC.out.c2
    clear hg hno
    go_wp2_with fail
    refine (rNew8_any N P R _ HN.out hP HR.out).mono ?_
    rintro e w2 ⟨hg, ⟨n', r', x', U, rfl, rfl, hd, hrt, rfl, hU⟩ | ⟨hno, rfl⟩⟩
    · exact absurd (by
        have hd' := hd
        unfold Os.D4 at hd'
        rcases hrt with ⟨_, _, h3⟩ | ⟨_, _, _, h3⟩ | ⟨⟨_, h1⟩, h2, _⟩
        · omega
        · omega
        · exact ⟨by omega, h1, h2⟩) HNO.out
    · have HG := Lib.hid (HG.out.trans hg)
      clear hg
      go_wp2_with fail
      refine bodyPost_ret (v := .tuple #[.pointer none, .pointer none, .bool true]) (by simp [results, Try.results13, go_sem]) rfl ?_
      exact ⟨HG.out, .inr rfl⟩

def IsW (x : Int) (w : World) (e : Ending) (w' : World) : Prop := e = .returned (.int .i64 x) ∧ w = w'
set_option maxRecDepth 100000 in
set_option maxHeartbeats 1000000 in
theorem turned_any (U n p r x j X : Nat) (w : World) (hd : Os.D4 n) (h : RSl w U n p r x) (hj : j ≤ 64) (hX : X = 3 ^ j % (2 * n)) :
    Calls Try.prog 44 #[.pointer (some ⟨U, 0, none⟩), .int .i64 j] w (IsW (X : Int) w) := by
  have HXX := Lib.hid hX
  clear hX
  have c0 := h.n0
  obtain ⟨d1, d2⟩ := hd.le
  have HD := Lib.hid hd
  have hn0 : ¬ n = 0 := by omega
  clear h hd
  go_enter Try.func44, Try.ntmps44
  go_wp2_with fail
  go_loop [5, 6] (fun a t => ∃ i M : Nat, t = .int .i64 i ∧ a = .int .i64 M ∧ i ≤ j ∧ M = 3 ^ i % (2 * n)) (fun _ t => j - (intOf t).toNat)
  case atStart => exact ⟨0, 1, rfl, rfl, by omega, by rw [Nat.pow_zero, Nat.mod_eq_of_lt (by omega)]⟩
  case round =>
    obtain ⟨i, M, rfl, rfl, hi, hM⟩ := hrel
    have hml : M < 2 * n := by rw [hM]; exact Nat.mod_lt _ (by omega)
    have HM := Lib.hid hM
    clear hM
    by_cases hlt : i < j
    · have i5 : (i : Int) < (j : Int) := by omega
      have HX := Lib.hid (show 3 * (M : Int) % (2 * (n : Int)) = ((3 ^ (i + 1) % (2 * n) : Nat) : Int) from by
        rw [← Os.Ex.next HD.out, ← HM.out]; simp)
      go_wp2_with fail
      go_round
      case rel => exact ⟨i + 1, _, by go_num, by rw [HX.out], by omega, rfl⟩
      case measure => simp [intOf]; omega
    · obtain rfl : i = j := by omega
      have i5 : ¬ (i : Int) < (i : Int) := by omega
      go_wp2_with fail
      go_ret
      exact ⟨by rw [HXX.out, ← HM.out]; rfl, rfl⟩

/-- A number, and draws. -/
def IsD (x : Int) (w : World) (e : Ending) (w' : World) : Prop := e = .returned (.int .i64 x) ∧ ∃ m, w' = w.drewN m
set_option maxRecDepth 100000 in
set_option maxHeartbeats 1000000 in
theorem rExponent_d (U n p r x k : Nat) (w : World) (hd : Os.D4 n) (h : RSl w U n p r x) (hk : k < n) :
    Calls Try.prog 39 #[.pointer (some ⟨U, 0, none⟩), .int .i64 k] w (IsD (Os.Ex n k : Nat) w) := by
  have c0 := h.n0
  have H := Lib.hid h
  obtain ⟨d1, d2⟩ := hd.le
  have HD := Lib.hid hd
  have hhf := hd.half
  obtain ⟨m, hm⟩ : ∃ m, m = n / 2 := ⟨_, rfl⟩
  rw [← hm] at hhf
  have e1 : (n : Int) / 2 = (m : Int) := by omega
  have HM := Lib.hid hm
  clear h hd hm
  by_cases hlt : k < m
  · have i1 : (k : Int) < (m : Int) := by omega
    have HX := Lib.hid (show Os.Ex n k = 3 ^ k % (2 * n) from Os.Ex.lo (by rw [← HM.out]; exact hlt))
    go_enter Try.func39, Try.ntmps39
    go_wp2_with fail
    refine (turned_any U n p r x k (Os.Ex n k) _ HD.out H.out (by omega) HX.out).mono ?_
    rintro e w1 ⟨rfl, rfl⟩
    go_wp2_with fail
    go_ret
    exact ⟨rfl, 0, rfl⟩
  · obtain ⟨j, hj⟩ : ∃ j, j = k - m := ⟨_, rfl⟩
    have i1 : ¬ (k : Int) < (m : Int) := by omega
    have i2 : (k : Int) - (m : Int) = (j : Int) := by omega
    have HX := Lib.hid (show Os.Ex n k = 2 * n - 3 ^ j % (2 * n) from by
      have := Os.Ex.hi (n := n) (k := j)
      rwa [← HM.out, show m + j = k by omega] at this)
    obtain ⟨X, hX⟩ : ∃ X, X = 3 ^ j % (2 * n) := ⟨_, rfl⟩
    have hXl : X < 2 * n := by rw [hX]; exact Nat.mod_lt _ (by omega)
    have HXX := Lib.hid hX
    rw [← hX] at HX
    have w1 : IntKind.i64.wrap (2 * (n : Int)) = 2 * (n : Int) := IntWalk.i64_in _ (by omega)
    have w2 : IntKind.i64.wrap (2 * (n : Int) - (X : Int)) = 2 * (n : Int) - (X : Int) := IntWalk.i64_in _ (by omega)
    have w3 : IntKind.i64.wrap (j : Int) = (j : Int) := IntWalk.i64_in _ (by omega)
    have w4 : (n : Int).tdiv 2 = (m : Int) := by rw [Int.tdiv_eq_ediv_of_nonneg (by omega)]; exact e1
    have w5 : IntKind.i64.wrap (m : Int) = (m : Int) := IntWalk.i64_in _ (by omega)
    have hjl : j ≤ 64 := by omega
    have HJL := Lib.hid hjl
    clear hX hj
    go_enter Try.func39, Try.ntmps39
    go_wp2_with fail
    have HW := Lib.hid (H.out.later ((Gr.refl w).drewN 1))
    go_region_held3 (fun wz => wz.cell? ⟨U, 0, none⟩ = some (.int .i64 n)) (go_keep)
      (first | (go_at_call 44; refine (turned_any U n p r x j X _ HD.out HW.out HJL.out HXX.out).mono ?_; rintro e w5 ⟨rfl, rfl⟩))
    go_wp2_with fail
    go_ret
    exact ⟨by rw [HX.out, Int.natCast_sub (by omega)]; rfl, 1, rfl⟩
theorem rExponent_q (U n p r x k m : Nat) (w : World) (hd : Os.D4 n) (h : RSl w U n p r x) (hk : k < n) :
    Calls Try.prog 39 #[.pointer (some ⟨U, 0, none⟩), .int .i64 k] (w.drewN m) (fun e w'' => e = .returned (.int .i64 (Os.Ex n k : Nat)) ∧ ∃ q, w'' = w.drewN q) :=
  Calls.quiet_of (rExponent_d U n p r x k (w.drewN m) hd (h.later ((Gr.refl w).drewN m)) hk)
end Go.Proofs.Ytfmmkdmnondomaa
