import Derived.Test.YtfmmkdmnondomaaLFC
/- Roots of x^n + 1: what the least one is; Root of the program. -/
namespace Oh7
open Op
set_option linter.unusedVariables false
theorem ev_sh1 (x : Int) : ∀ n : Nat, ev (sh n [1]) x = x ^ n
  | 0 => by simp [sh, ev]
  | n + 1 => by rw [sh_succ, ev_cons, ev_sh1 x n, Int.pow_succ, Int.mul_comm]; omega
theorem ev_xn (n : Nat) (x : Int) : ev (xn n) x = 1 + x ^ n := by
  rw [xn, ev_add, ev_sh1]; simp [ev]
theorem evd_add (x : Int) : ∀ a b, evd (add a b) x = evd a x + evd b x
  | [], b => by simp [add, evd]
  | a, [] => by cases a <;> simp [add, evd]
  | c :: a, d :: b => by
    rw [add, evd_cons, evd_cons, evd_cons, ev_add, evd_add x a b, Int.mul_add]; omega
theorem evd_sh1 (x : Int) : ∀ n : Nat, x * evd (sh n [1]) x = n * x ^ n
  | 0 => by simp [sh, evd, ev]
  | n + 1 => by
    rw [sh_succ, evd_cons, ev_sh1, Int.mul_add, evd_sh1 x n, Int.pow_succ, Int.mul_left_comm x (n : Int), Int.mul_comm x (x ^ n)]
    rw [show ((n + 1 : Nat) : Int) = (n : Int) + 1 from rfl, Int.add_mul]
    omega
theorem evd_xn (n : Nat) (x : Int) : x * evd (xn n) x = n * x ^ n := by
  rw [xn, evd_add, Int.mul_add, evd_sh1]; simp [evd, ev]
theorem dvd32 : ∀ d : Nat, d < 65 → 2 ≤ d → 64 % d = 0 → d % 2 = 0 := by decide
theorem pr_two {n d : Nat} (h : n ∈ Oq.dims) (hd : Ob.Pr d) (hn : d ∣ 2 * n) : d = 2 := by
  have h64 : d ∣ 64 := by
    refine Nat.dvd_trans hn ?_
    simp [Oq.dims] at h
    rcases h with rfl | rfl | rfl | rfl | rfl <;> decide
  have hle := Nat.le_of_dvd (by omega) h64
  have h2 := hd.1
  have he := dvd32 d (by omega) h2 (Nat.mod_eq_zero_of_dvd h64)
  apply Classical.byContradiction
  intro hne
  exact hd.2 2 (Nat.le_refl _) (by omega) (Nat.dvd_of_mod_eq_zero he)
/-- y^n + 1 is 0 modulo p. -/
def IsR (n p y : Nat) : Prop := (p : Int) ∣ ev (xn n) y
theorem IsR.nat {n p y : Nat} (hp : 2 ≤ p) : IsR n p y ↔ y ^ n % p = p - 1 := by
  unfold IsR
  rw [ev_xn, ← Int.natCast_pow]
  have h1 := Nat.div_add_mod (y ^ n) p
  have h2 := Nat.mod_lt (y ^ n) (show 0 < p by omega)
  constructor
  · intro h
    have h3 : (p : Int) ∣ ((y ^ n % p + 1 : Nat) : Int) := by
      have e : ((y ^ n % p + 1 : Nat) : Int) = 1 + ((y ^ n : Nat) : Int) - p * ((y ^ n / p : Nat) : Int) := by
        have h4 : ((y ^ n : Nat) : Int) = (p : Int) * ((y ^ n / p : Nat) : Int) + ((y ^ n % p : Nat) : Int) := by rw [← Int.natCast_mul, ← Int.natCast_add, h1]
        omega
      rw [e]; exact Int.dvd_sub h ⟨_, rfl⟩
    have h4 := Int.ofNat_dvd.1 h3
    have h5 := Nat.le_of_dvd (by omega) h4
    omega
  · intro h
    have h4 : ((y ^ n : Nat) : Int) = (p : Int) * ((y ^ n / p : Nat) : Int) + ((y ^ n % p : Nat) : Int) := by rw [← Int.natCast_mul, ← Int.natCast_add, h1]
    refine ⟨((y ^ n / p : Nat) : Int) + 1, ?_⟩
    rw [Int.mul_add]
    omega
theorem IsR.ord {n p y : Nat} (hn : n ∈ Oq.dims) (hp : 2 < p) (h : IsR n p y) : Ob.Ord p y (2 * n) := by
  have hx := (IsR.nat (by omega)).1 h
  have hn2 : 2 ≤ n := by simp [Oq.dims] at hn; omega
  have h1 : y ^ (2 * n) % p = 1 := by
    have e : y ^ (2 * n) = y ^ n * y ^ n := by rw [← Nat.pow_add]; congr 1; omega
    rw [e, Nat.mul_mod, hx]
    have e2 : (p - 1) * (p - 1) = 1 + p * (p - 2) := by
      have key : ∀ k : Nat, (k + 1) * (k + 1) = 1 + (k + 2) * k := fun k => by simp only [Nat.add_mul, Nat.mul_add]; omega
      have := key (p - 2)
      rwa [show p - 2 + 1 = p - 1 by omega, show p - 2 + 2 = p by omega] at this
    rw [e2, Nat.add_mul_mod_self_left, Nat.mod_eq_of_lt (by omega)]
  refine Ob.ord_of (by omega) (by omega) h1 (fun d hd hdn => ?_)
  obtain rfl := pr_two hn hd hdn
  rw [show 2 * n / 2 = n by omega, hx]
  omega
theorem IsR.of_ord {n p y : Nat} (hn : n ∈ Oq.dims) (hp : Ob.Pr p) (h2 : 2 < p) (h : Ob.Ord p y (2 * n)) : IsR n p y := by
  have hn2 : 2 ≤ n := by simp [Oq.dims] at hn; omega
  refine (IsR.nat (by omega)).2 ?_
  have h1 := h.1
  rw [show 2 * n = n + n by omega, Nat.pow_add] at h1
  rcases Ob.sqrt_one hp h1 with h3 | h3
  · have := Nat.le_of_dvd (by omega) (h.2 n h3)
    omega
  · exact h3
theorem IsR.simple {n p y : Nat} (hn : n ∈ Oq.dims) (hp : Ob.Pr p) (h2 : 2 < p) (h : IsR n p y) : ¬ (p : Int) ∣ evd (xn n) y := fun hd => by
  have hn2 : 2 ≤ n := by simp [Oq.dims] at hn; omega
  have h3 : (p : Int) ∣ (n : Int) * (y : Int) ^ n := by rw [← evd_xn]; exact Int.dvd_mul_of_dvd_right hd
  rcases hp.int_mul h3 with h4 | h4
  · have h5 := Int.ofNat_dvd.1 h4
    have := pr_two hn hp (Nat.dvd_trans h5 ⟨2, by omega⟩)
    omega
  · unfold IsR at h
    rw [ev_xn] at h
    have h5 := Int.dvd_sub h h4
    rw [Int.add_sub_cancel] at h5
    have := Int.le_of_dvd (by omega) h5
    omega
/-- The least root. -/
def LRoot (n p y : Nat) : Prop := y < p ∧ IsR n p y ∧ ∀ z, z < y → ¬ IsR n p z
theorem LRoot.unique {n p y z : Nat} (h : LRoot n p y) (k : LRoot n p z) : y = z := by
  rcases Nat.lt_trichotomy y z with h1 | h1 | h1
  · exact absurd h.2.1 (k.2.2 y h1)
  · exact h1
  · exact absurd k.2.1 (h.2.2 z h1)
theorem LRoot.of_least {n p y : Nat} (hn : n ∈ Oq.dims) (hp : Ob.Pr p) (h2 : 2 < p) (h : Ob.LeastOrd p (2 * n) y) : LRoot n p y :=
  ⟨h.2.1, IsR.of_ord hn hp h2 h.1, fun z hz hr => by
    have := h.2.2 z (by have := h.2.1; omega) (hr.ord hn h2)
    omega⟩
end Oh7
namespace Go.Proofs.Ytfmmkdmnondomaa
open Go.RowKit
set_option linter.unusedVariables false

theorem Lo.own_zeros (w : World) (n : Nat) (base : Nat) (hb : base ≤ w.heap.size) (hn : n ≤ 1000000) : Lo.Own1 (w.alloc (.cells (Lo.zrow n) 2)) base (.slice (some ⟨w.heap.size, 0, none⟩) n n) (List.replicate n 0) := by
  have hr := Lo.Row.zeros w n
  refine ⟨hr.1, by rw [Lo.pcells_len, List.length_replicate]; omega, .inr ⟨w.heap.size, n, Lo.zrow n, by rw [List.length_replicate], hb, Lo.Rw.new w _, by simp, by unfold maxLen; omega, by rw [Lo.zrow_size]; omega, ?_⟩⟩
  apply List.ext_getElem?
  intro j
  rw [List.length_replicate, Nat.mul_one]
  by_cases hj : j < n
  · rw [List.getElem?_take_of_lt hj, Array.getElem?_toList, Lo.zrow_at n j hj, Lo.pcells_at _ _ (by simpa using hj), Lo.cf_rep]
  · rw [List.getElem?_eq_none (by simp; omega), List.getElem?_eq_none (by rw [Lo.pcells_len]; simp; omega)]
theorem Lo.I64.set {l : List Int} (h : Lo.I64 l) {x : Int} (hx : -9223372036854775808 ≤ x ∧ x < 9223372036854775808) (j : Nat) : Lo.I64 (l.set j x) := fun y hy => by
  rcases List.mem_or_eq_of_mem_set hy with h1 | h1
  · exact h y h1
  · rw [h1]; exact hx
theorem Lo.Own1.set {W : World} {base : Nat} {g : Nat} {n cap : Nat} {l : List Int} (h : Lo.Own1 W base (.slice (some ⟨g, 0, none⟩) n cap) l) {j : Nat} (hj : j < l.length) {x : Int} (hx : -9223372036854775808 ≤ x ∧ x < 9223372036854775808) :
    Lo.Own1 (W.setCell ⟨g, j, none⟩ (.int .i64 x)) base (.slice (some ⟨g, 0, none⟩) n cap) (l.set j x) ∧ Below base W (W.setCell ⟨g, j, none⟩ (.int .i64 x)) := by
  obtain ⟨h0, h1⟩ := h
  rcases h1.2 with ⟨e, _⟩ | ⟨g', cap', cur, e, hb, hg, k1, k2, k3, k4⟩
  · cases e
  · cases e
    have hlen := h1.1
    refine ⟨⟨h0.set hx j, ?_, .inr ⟨g, cap, cur.setIfInBounds j (.int .i64 x), by simp, hb, ?_, by simpa using k1, k2, by simpa using k3, ?_⟩⟩, (Below.refl _ _).setCell (p := ⟨g, j, none⟩) hb _⟩
    · rw [Lo.pcells_len] at hlen ⊢; rw [List.length_set]; exact hlen
    · exact Lo.Rw.set (W := W) (g := g) hg j _
    · rw [List.length_set, Array.toList_setIfInBounds, List.take_set, k4]
      simp [Lo.pcells, List.map_set]
/-- The memory of x^n + 1. -/
def xnW (w : World) (m : Nat) : World := w.alloc (.cells (((Lo.zrow (m + 1)).setIfInBounds 0 (.int .i64 1)).setIfInBounds m (.int .i64 1)) 2)
theorem xnW_has (w : World) (m : Nat) (hm : 2 ≤ m ∧ m ≤ 32) : Lo.HasQ (xnW w m) (.slice (some ⟨w.heap.size, 0, none⟩) (m + 1) (m + 1)) (Op.xn m) := by
  obtain ⟨k1, k2⟩ := (Lo.own_zeros w (m + 1) w.heap.size (Nat.le_refl _) (by omega)).set (j := 0) (by simp) (x := 1) (by omega)
  obtain ⟨k3, k4⟩ := k1.set (j := m) (by simp) (x := 1) (by omega)
  rw [xn_set m (by omega)] at k3
  have e : ((w.alloc (.cells (Lo.zrow (m + 1)) 2)).setCell ⟨w.heap.size, 0, none⟩ (.int .i64 1)).setCell ⟨w.heap.size, m, none⟩ (.int .i64 1) = xnW w m := by simp [go_sem, xnW]
  have h5 := k3.hasQ
  rw [e] at h5
  exact h5
theorem xn_zrow (m : Nat) (hm : 2 ≤ m) : ((Lo.zrow (m + 1)).setIfInBounds 0 (.int .i64 1))[m]? = some (.int .i64 0) := by
  rw [Array.getElem?_setIfInBounds_ne (by omega), Lo.zrow_at _ _ (by omega)]

set_option maxHeartbeats 1000000 in
theorem binomial64_any (m : Nat) (w : World) (hm : 2 ≤ m ∧ m ≤ 32) : Calls Try.prog 60 #[.int .i64 m] w (fun e w' => e = .returned (.slice (some ⟨w.heap.size, 0, none⟩) (m + 1) (m + 1)) ∧ xnW w m = w') := by
  obtain ⟨m1, m2⟩ := hm
  have hmk := Lo.mk_row (m + 1) ((m : Int) + 1) (by omega) (by omega)
  have hr := Lo.Row.zeros w (m + 1)
  have c0 := hr.cell (j := 0) (by simp)
  have c1 := hr.cell (j := m) (by simp)
  have f0 := hr.frozen 0
  have f1 := hr.frozen m
  rw [Lo.cf_rep] at c0 c1
  have hz := xn_zrow m m1
  clear hr
  go_enter Try.func60, Try.ntmps60
  go_wp2_with fail
  go_ret
  exact ⟨rfl, rfl⟩

/-- The root and the error. -/
def RtR (n : Int) (p : Nat) (r : Int) (x : Nat) (E : Int) : Prop :=
  (¬ (DimI n ∧ MdOk p r) ∧ x = 0 ∧ E = 2) ∨ ((DimI n ∧ MdOk p r) ∧ p % (2 * n.toNat) ≠ 1 ∧ x = 0 ∧ E = 4) ∨
  ((DimI n ∧ MdOk p r) ∧ p % (2 * n.toNat) = 1 ∧ E = 0 ∧ ∃ y, Oh7.LRoot n.toNat p y ∧ LiftR (Op.xn n.toNat) p r y x 0)
theorem RtR.unique {n : Int} {p : Nat} {r : Int} {x y : Nat} {E F : Int} (h : RtR n p r x E) (k : RtR n p r y F) : x = y ∧ E = F := by
  rcases h with ⟨h1, rfl, rfl⟩ | ⟨h1, h2, rfl, rfl⟩ | ⟨h1, h2, rfl, a, h3, h4⟩ <;> rcases k with ⟨k1, rfl, rfl⟩ | ⟨k1, k2, rfl, rfl⟩ | ⟨k1, k2, rfl, b, k3, k4⟩
  all_goals first | exact ⟨rfl, rfl⟩ | exact absurd k1 h1 | exact absurd h1 k1 | exact absurd h2 k2 | exact absurd k2 h2 | skip
  obtain rfl := h3.unique k3
  exact ⟨(h4.unique k4).1, rfl⟩
def RtP (n : Int) (p : Nat) (r : Int) (w : World) (e : Ending) (w' : World) : Prop := ∃ (x : Nat) (E : Int), e = .returned (.tuple #[.int .u32 x, .int .i64 E]) ∧ RtR n p r x E ∧ Gr w w'
theorem lift_ok {n p y x : Nat} {r : Int} {E : Int} (hn : n ∈ Oq.dims) (hok : MdOk p r) (hy : Oh7.LRoot n p y) (h : LiftR (Op.xn n) p r y x E) : E = 0 := by
  have hn2 : n ≤ 32 := by simp [Oq.dims] at hn; omega
  have hs : Simple (Op.xn n) p y := ⟨hy.2.1, hy.2.1.simple hn hok.1.2.2 hok.1.1⟩
  rcases h with ⟨h1, _⟩ | ⟨_, h2, _⟩ | ⟨_, _, h2, _⟩ | ⟨_, _, _, h2, _⟩
  · exact absurd ⟨hok, hy.1⟩ h1
  · rw [Oq.xn_len] at h2; omega
  · exact absurd hs h2
  · exact h2

set_option maxRecDepth 100000 in
set_option maxHeartbeats 2000000 in
theorem froot_any (n : Int) (p : Nat) (r : Int) (w : World) (hn : -9223372036854775808 ≤ n ∧ n ≤ 9223372036854775807) (hp : p ≤ 4294967295) (hr : -9223372036854775808 ≤ r ∧ r ≤ 9223372036854775807) :
    Calls Try.prog 46 #[.int .i64 n, .int .u32 p, .int .i64 r] w (RtP n p r w) := by
  have HR := Lib.hid hr
  have HN := Lib.hid hn
  clear hr hn
  by_cases hok : MdOk p r
  · have HOK := Lib.hid hok
    clear hok
    by_cases hd : DimI n
    · obtain ⟨hmem, hnn, hn2, hn32⟩ := hd.mem
      obtain ⟨m, hm⟩ : ∃ m, m = n.toNat := ⟨_, rfl⟩
      rw [← hm] at hmem hnn hn2 hn32
      have HD := Lib.hid hd
      have HM := Lib.hid hm
      have HMEM := Lib.hid hmem
      subst hnn
      have HDEC := Lib.hid (show decide (DimI (m : Int)) = true from decide_eq_true HD.out)
      have HPL := Lib.hid HOK.out.1
      clear hd hm hmem
      go_enter Try.func46, Try.ntmps46
      go_wp2_with fail
      refine (plainMod_any p r _ hp HR.out).mono ?_
      rintro e w1 ⟨q, ok, rfl, hmd, hg⟩
      obtain rfl := hmd.ok.1.2 HOK.out
      have HG := Lib.hid hg
      clear hmd hg
      go_wp2_with fail
      refine (fdim_any (m : Int) _).mono ?_
      rintro e w2 ⟨rfl, rfl⟩
      rw [HDEC.out]
      have ho : ((2 : Int) * (m : Int)) = ((2 * m : Nat) : Int) := by omega
      have HO := Lib.hid ho
      clear ho
      go_wp2_with fail
      rw [HO.out]
      refine (root_any (2 * m) p _ (by omega) hp).mono ?_
      rintro e w3 ⟨y, c, rfl, hres, hg3⟩
      have HG3 := Lib.hid (HG.out.trans hg3)
      have hp2 := HPL.out.1
      have hp3 := HPL.out.2.1
      have hpr := HPL.out.2.2
      have hmod : (p - 1) % (2 * m) = 0 ↔ p % (2 * m) = 1 := by
        constructor
        · intro h
          obtain ⟨k, hk⟩ := Nat.dvd_of_mod_eq_zero h
          rw [show p = 2 * m * k + 1 by omega, Nat.mul_add_mod, Nat.mod_eq_of_lt (by omega)]
        · intro h
          have := Nat.div_add_mod p (2 * m)
          rw [h] at this
          rw [show p - 1 = 2 * m * (p / (2 * m)) by omega, Nat.mul_mod_right]
      have hcase : (c = 4 ∧ p % (2 * m) ≠ 1) ∨ (c = 0 ∧ p % (2 * m) = 1 ∧ Ob.LeastOrd p (2 * m) y) := by
        rcases hres with ⟨h1, _⟩ | ⟨⟨h1, h2⟩, _⟩ | ⟨⟨h1, h2, h3, h4⟩, h5, h6⟩ | ⟨⟨h1, h2, h3, h4⟩, h5, h6⟩
        · rcases h1 with h1 | h1
          · exact absurd ⟨by omega, hpr⟩ h1
          · omega
        · omega
        · exact .inl ⟨h6, fun h => h4 (hmod.2 h)⟩
        · exact .inr ⟨h5, hmod.1 h4, h6⟩
      clear hres hg3 hmod hp2 hp3 hpr
      rcases hcase with ⟨rfl, h1⟩ | ⟨rfl, h1, h2⟩
      · have H1 := Lib.hid h1
        clear h1
        go_wp2_with fail
        go_ret2
        exact ⟨0, 4, rfl, .inr (.inl ⟨⟨HD.out, HOK.out⟩, by rw [← HM.out]; exact H1.out, rfl, rfl⟩), HG3.out⟩
      · have H1 := Lib.hid h1
        have HLR := Lib.hid (Oh7.LRoot.of_least HMEM.out HPL.out.2.2 HPL.out.1 h2)
        clear h1 h2
        go_wp2_with fail
        refine (binomial64_any m _ ⟨hn2, hn32⟩).mono ?_
        rintro e w4 ⟨rfl, rfl⟩
        have HX := Lib.hid (xnW_has w3 m ⟨hn2, hn32⟩)
        have HG4 := Lib.hid (show Gr w3 (xnW w3 m) from Gr.new _ _)
        have HS := Lib.hid (show w3.heap.size = w3.heap.size from rfl)
        obtain ⟨W4, hW4⟩ : ∃ W4, W4 = xnW w3 m := ⟨_, rfl⟩
        rw [← hW4] at HX HG4 ⊢
        clear hW4
        go_wp2_with fail
        refine (lift_any (Op.xn m) _ p r y _ HX.out (by rw [Oq.xn_len]; omega) hp HR.out (by have := HLR.out.1; omega)).mono ?_
        rintro e w5 ⟨x, E, rfl, hlift, hg5⟩
        obtain rfl := lift_ok HMEM.out HOK.out HLR.out hlift
        have H5 := Lib.hid (And.intro hlift hg5)
        clear hlift hg5
        go_wp2_with fail
        go_ret2
        exact ⟨x, 0, rfl, .inr (.inr ⟨⟨HD.out, HOK.out⟩, by rw [← HM.out]; exact H1.out, rfl, y, by rw [← HM.out]; exact HLR.out, by rw [← HM.out]; exact H5.out.1⟩), (HG3.out.trans HG4.out).trans H5.out.2⟩
    · have HDEC := Lib.hid (show decide (DimI n) = false from decide_eq_false hd)
      have HD := Lib.hid hd
      clear hd
      go_enter Try.func46, Try.ntmps46
      go_wp2_with fail
      refine (plainMod_any p r _ hp HR.out).mono ?_
      rintro e w1 ⟨q, ok, rfl, hmd, hg⟩
      obtain rfl := hmd.ok.1.2 HOK.out
      have HG := Lib.hid hg
      clear hmd hg
      go_wp2_with fail
      refine (fdim_any n _).mono ?_
      rintro e w2 ⟨rfl, rfl⟩
      rw [HDEC.out]
      go_wp2_with fail
      go_ret2
      exact ⟨0, 2, rfl, .inl ⟨fun h => HD.out h.1, rfl, rfl⟩, HG.out⟩
  · have HOK := Lib.hid hok
    clear hok
    go_enter Try.func46, Try.ntmps46
    go_wp2_with fail
    refine (plainMod_any p r _ hp HR.out).mono ?_
    rintro e w1 ⟨q, ok, rfl, hmd, hg⟩
    obtain rfl : ok = false := by
      cases ok with
      | false => rfl
      | true => exact absurd (hmd.ok.1.1 rfl) HOK.out
    have HG := Lib.hid hg
    clear hmd hg
    go_wp2_with fail
    go_ret2
    exact ⟨0, 2, rfl, .inl ⟨fun h => HOK.out h.2, rfl, rfl⟩, HG.out⟩
end Go.Proofs.Ytfmmkdmnondomaa
/- The reference's Lift, Least, Root and Degree. -/
namespace Go.Proofs.Ytfmmkdmnondomaa
open Go.RowKit
set_option linter.unusedVariables false
end Go.Proofs.Ytfmmkdmnondomaa
/- The reference's Lift and Root. -/
namespace Go.Proofs.Ytfmmkdmnondomaa
open Go.RowKit
set_option linter.unusedVariables false

theorem pow_dvd_pow' (p : Int) {i j : Nat} (h : i ≤ j) : p ^ i ∣ p ^ j := ⟨p ^ (j - i), by rw [← Int.pow_add]; congr 1; omega⟩
/-- The root modulo p^r that belongs to a simple root. -/
structure IsY (a : List Int) (p rn root Y : Nat) : Prop where
  hp : Ob.Pr p
  lt : Y < p ^ rn
  cg : (p : Int) ∣ (Y : Int) - root
  rt : (p : Int) ^ rn ∣ Op.ev a Y
  sl : ¬ (p : Int) ∣ Oh7.evd a root
theorem IsY.ex {a : List Int} {p rn root : Nat} (hp : Ob.Pr p) (hr : 1 ≤ rn) (hs : Simple a p root) : ∃ Y, IsY a p rn root Y := by
  obtain ⟨y, h1, h2⟩ := Oh7.exist hp hs.1 hs.2 rn hr
  have hpos : 0 < p ^ rn := Nat.pow_pos (by have := hp.1; omega)
  have hb := Int.emod_nonneg y (show ((p ^ rn : Nat) : Int) ≠ 0 by omega)
  have hb2 := Int.emod_lt_of_pos y (show (0 : Int) < ((p ^ rn : Nat) : Int) by omega)
  have hd := Op.dvd_mod ((p ^ rn : Nat) : Int) y
  have e : ((y % ((p ^ rn : Nat) : Int)).toNat : Int) = y % ((p ^ rn : Nat) : Int) := Int.toNat_of_nonneg hb
  rw [Int.natCast_pow] at hd
  have hpp : (p : Int) ∣ (p : Int) ^ rn := by have := pow_dvd_pow' (p : Int) hr; rwa [Int.pow_succ, Int.pow_zero, Int.one_mul] at this
  rw [Int.natCast_pow] at e
  refine ⟨(y % ((p ^ rn : Nat) : Int)).toNat, hp, by omega, ?_, ?_, hs.2⟩
  · rw [Int.natCast_pow, e]
    have := Int.dvd_add (Int.dvd_trans hpp hd) h1
    have e2 : y % (p : Int) ^ rn - y + (y - root) = y % (p : Int) ^ rn - root := by omega
    rwa [e2] at this
  · rw [Int.natCast_pow, e]
    have := Int.dvd_add (Oh7.ev_dvd hd a) h2
    rwa [Int.sub_add_cancel] at this
/-- Which number below p^(j+1) is the root modulo p^(j+1). -/
theorem IsY.test {a : List Int} {p rn root Y X j : Nat} (h : IsY a p rn root Y) (hj1 : 1 ≤ j) (hj : j + 1 ≤ rn) (hX : X % p ^ j = Y % p ^ j) (hle : X ≤ Y % p ^ (j + 1)) : ((p ^ (j + 1) : Nat) : Int) ∣ Op.ev a X ↔ X = Y % p ^ (j + 1) := by
  have hpos : 0 < p ^ (j + 1) := Nat.pow_pos (by have := h.hp.1; omega)
  have hdY : (p : Int) ^ (j + 1) ∣ Op.ev a Y := Int.dvd_trans (pow_dvd_pow' _ hj) h.rt
  have hcX : (p : Int) ∣ (X : Int) - Y := by
    have h1 : ((p ^ j : Nat) : Int) ∣ (X : Int) - Y := by
      have h2 : (X : Int) % ((p ^ j : Nat) : Int) = (Y : Int) % ((p ^ j : Nat) : Int) := by rw [← Int.natCast_emod, ← Int.natCast_emod, hX]
      exact Int.dvd_of_emod_eq_zero (Int.emod_eq_emod_iff_emod_sub_eq_zero.1 h2)
    rw [Int.natCast_pow] at h1
    have h3 := pow_dvd_pow' (p : Int) hj1
    rw [Int.pow_succ, Int.pow_zero, Int.one_mul] at h3
    exact Int.dvd_trans h3 h1
  rw [Int.natCast_pow]
  constructor
  · intro hd
    have hsY : ¬ (p : Int) ∣ Oh7.evd a Y := fun hh => h.sl (by
      have := Int.dvd_sub hh (Oh7.evd_dvd h.cg a)
      have e : Oh7.evd a Y - (Oh7.evd a Y - Oh7.evd a root) = Oh7.evd a root := by omega
      rwa [e] at this)
    have hu := Oh7.unique h.hp hcX hsY hdY hd
    rw [← Int.natCast_pow] at hu
    have h2 := Int.emod_eq_emod_iff_emod_sub_eq_zero.2 (Int.emod_eq_zero_of_dvd hu)
    rw [← Int.natCast_emod, ← Int.natCast_emod] at h2
    have h3 : X % p ^ (j + 1) = Y % p ^ (j + 1) := by omega
    rw [← h3, Nat.mod_eq_of_lt (Nat.lt_of_le_of_lt hle (Nat.mod_lt _ hpos))]
  · intro e
    have hd : ((p ^ (j + 1) : Nat) : Int) ∣ (X : Int) - Y := by
      rw [e, Int.natCast_emod]; exact Op.dvd_mod _ _
    rw [Int.natCast_pow] at hd
    have := Int.dvd_add (Oh7.ev_dvd hd a) hdY
    rwa [Int.sub_add_cancel] at this
theorem IsY.next {p Y X j : Nat} (hp : 1 ≤ p) (hX : X % p ^ j = Y % p ^ j) (hlt : X < Y % p ^ (j + 1)) : X + p ^ j ≤ Y % p ^ (j + 1) ∧ (X + p ^ j) % p ^ j = Y % p ^ j := by
  refine ⟨?_, by rw [Nat.add_mod_right, hX]⟩
  have h1 : Y % p ^ (j + 1) % p ^ j = Y % p ^ j := Nat.mod_mod_of_dvd _ ⟨p, by rw [Nat.pow_succ]⟩
  have h2 : (Y % p ^ (j + 1) - X) % p ^ j = 0 := by
    have h3 : X % p ^ j = Y % p ^ (j + 1) % p ^ j := by rw [h1, hX]
    exact Nat.mod_eq_zero_of_dvd ((Ob.mod_iff_dvd (Nat.le_of_lt hlt)).1 h3)
  have h3 := Nat.le_of_dvd (by omega) (Nat.dvd_of_mod_eq_zero h2)
  omega

end Go.Proofs.Ytfmmkdmnondomaa
