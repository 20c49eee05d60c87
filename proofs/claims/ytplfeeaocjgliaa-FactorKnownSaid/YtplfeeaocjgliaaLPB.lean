import Derived.Test.YtplfeeaocjgliaaLPA
import Derived.Deep.RegionHeld3
import Derived.Deep.QuietTactic
import Derived.BigQuiet
import Derived.StillTailTactics
import Derived.Deep.DeepCutAuto
import Derived.Test.YtplfeeaocjgliaaLMB
import Derived.Test.YtplfeeaocjgliaaLMF
import Derived.ProofKit
import Derived.OpenShut
import Derived.Lib.SmallJoins
import Derived.Deep.Fields
import Derived.ChangeSlices
/- wrapped. -/
namespace Go.Proofs.Ytplfeeaocjgliaa
open Go.RowKit
set_option linter.unusedVariables false

end Go.Proofs.Ytplfeeaocjgliaa
/- divisor, divide, rest. -/
namespace Op
set_option linter.unusedVariables false
theorem ld_cf {l : List Int} {n : Nat} (h : n = l.length) : cf l (n - 1) = ld l := by rw [h]; rfl
end Op
namespace Go.Proofs.Ytplfeeaocjgliaa
open Go.RowKit
set_option linter.unusedVariables false

/-- The last cell. -/
theorem HasP.cells0 {W : World} {a : Option Addr} {l : List Int} {n cap : Nat} (h : HasP W (.slice a n cap) l) (h0 : 0 < n) : ∃ g o, a = some ⟨g, o, none⟩ ∧ W.cell? ⟨g, o + (n - 1), none⟩ = some (.int .u32 (Op.cf l (n - 1))) := by
  obtain ⟨rfl, _⟩ := h.len
  obtain ⟨hd, a', cap', e, h1, h2, hc⟩ := h
  simp only [Value.slice.injEq] at e
  obtain ⟨rfl, -, rfl⟩ := e
  exact hc (l.length - 1) (by omega)
/-- The divisor that is returned. -/
def DvsP (m : Int) (v : Value) (b : List Int) (w : World) (e : Ending) (w' : World) : Prop :=
  ∃ r, e = .returned (.tuple #[.agg #[.int .u32 m, v, .int .u32 r], .int .i64 0]) ∧ 0 ≤ r ∧ r < m ∧ m ∣ Op.ld b * r - 1 ∧ Gr w w'
def DvsNo (w : World) (e : Ending) (w' : World) : Prop := ∃ p xa xn xc, e = .returned (.tuple #[.agg #[.int .u32 p, .slice xa xn xc, .int .u32 0], .int .i64 7]) ∧ Gr w w'

set_option maxRecDepth 100000 in
set_option maxHeartbeats 1000000 in
theorem divisor_ok (m : Int) (b : List Int) (v : Value) (w : World) (hm : 2 ≤ m ∧ m ≤ 2147483647) (hb : Op.Rs m b) (hne : b ≠ []) (hv : HasP w v b) (hu : Op.Un m (Op.ld b)) :
    Calls Try.prog 94 #[.int .u32 m, v] w (DvsP m v b w) := by
  have HM := Lib.hid hm
  obtain ⟨hd, a, cap, rfl, h1, h2, hc⟩ := hv
  have hpos : 0 < b.length := List.length_pos_iff.2 hne
  obtain ⟨g, o, rfl, hcell⟩ := hc (b.length - 1) (by omega)
  have hx := Op.rs_cf (show 0 < m from by omega) hb (b.length - 1)
  obtain ⟨n, hn⟩ : ∃ n, n = b.length := ⟨_, rfl⟩
  obtain ⟨x, hxe⟩ : ∃ x, x = Op.cf b (b.length - 1) := ⟨_, rfl⟩
  have HU := Lib.hid (show Op.Un m x from by rw [hxe]; exact hu)
  rw [← hxe] at hcell hx
  rw [← hn] at hpos h1 hcell ⊢
  have HX := Lib.hid (show x = Op.ld b from hxe)
  have HXB := Lib.hid hx
  have e1 : ((n - 1 : Nat) : Int) = (n : Int) - 1 := by omega
  have e2 : ((n : Int) - 1).toNat = n - 1 := by omega
  have hp0 : (0 : Int) < (n : Int) := by omega
  have hb0 : ((n : Int) == 0) = false := by simp; omega
  have hlt : g < w.heap.size := World.block_lt_of_cell? w _ hcell
  have hn1 : ¬ (g = w.heap.size) := by omega
  have hn2 : ¬ (w.heap.size = g) := by omega
  clear hu hc hd hn hxe hb hne hm hx
  go_enter Try.func94, Try.ntmps94
  go_wp2_with fail
  refine (inv_ok m x _ HM.out HXB.out HU.out).mono ?_
  rintro e w1 ⟨r, rfl, hr0, hr1, hr2, hg⟩
  have HR2 := Lib.hid hr2
  have HG := Lib.hid ((Gr.new w _).trans hg)
  have hc0 := hg.keeps (p := ⟨w.heap.size, 0, none⟩) (v := .int .u32 0) (by simp [go_sem])
  have hc1 := hg.keeps (p := ⟨w.heap.size, 1, none⟩) (v := .slice none 0 0) (by simp [go_sem])
  have hc2 := hg.keeps (p := ⟨w.heap.size, 2, none⟩) (v := .int .u32 0) (by simp [go_sem])
  have hf : ∀ j, w1.frozen? ⟨w.heap.size, j, none⟩ = false := fun j => (hg.frozen (p := ⟨w.heap.size, j, none⟩) (by simp)).trans (by simp [go_sem])
  have hf0 := hf 0
  have hf1 := hf 1
  have hf2 := hf 2
  clear hr2 hg hf
  go_wp2_with fail
  refine bodyPost_ret (v := .tuple #[.agg #[.int .u32 m, .slice (some ⟨g, o, none⟩) n cap, .int .u32 r], .int .i64 0]) (by simp [results, Try.results94, go_sem, hc0, hc1, hc2]) rfl ?_
  exact ⟨r, rfl, hr0, hr1, by rw [← HX.out]; exact HR2.out, ((HG.out.setCell (p := ⟨w.heap.size, 0, none⟩) (Nat.le_refl _) _).setCell (p := ⟨w.heap.size, 1, none⟩) (Nat.le_refl _) _).setCell (p := ⟨w.heap.size, 2, none⟩) (Nat.le_refl _) _⟩

set_option maxRecDepth 100000 in
set_option maxHeartbeats 1000000 in
theorem divisor_empty (m : Int) (v : Value) (w : World) (hv : HasP w v []) :
    Calls Try.prog 94 #[.int .u32 m, v] w (DvsNo w) := by
  obtain ⟨hd, a, cap, rfl, h1, h2, hc⟩ := hv
  clear hc hd
  go_enter Try.func94, Try.ntmps94
  go_wp2_with fail
  refine bodyPost_ret (v := .tuple #[.agg #[.int .u32 0, .slice none 0 0, .int .u32 0], .int .i64 7]) (by simp [results, Try.results94, go_sem]) rfl ?_
  exact ⟨_, _, _, _, rfl, Gr.new w _⟩

set_option maxRecDepth 100000 in
set_option maxHeartbeats 1000000 in
theorem divisor_none (m : Int) (b : List Int) (v : Value) (w : World) (hm : 2 ≤ m ∧ m ≤ 2147483647) (hb : Op.Rs m b) (hne : b ≠ []) (hv : HasP w v b) (hu : ¬ Op.Un m (Op.ld b)) :
    Calls Try.prog 94 #[.int .u32 m, v] w (DvsNo w) := by
  have HM := Lib.hid hm
  obtain ⟨hd, a, cap, rfl, h1, h2, hc⟩ := hv
  have hpos : 0 < b.length := List.length_pos_iff.2 hne
  obtain ⟨g, o, rfl, hcell⟩ := hc (b.length - 1) (by omega)
  have hx := Op.rs_cf (show 0 < m from by omega) hb (b.length - 1)
  obtain ⟨n, hn⟩ : ∃ n, n = b.length := ⟨_, rfl⟩
  obtain ⟨x, hxe⟩ : ∃ x, x = Op.cf b (b.length - 1) := ⟨_, rfl⟩
  have HU := Lib.hid (show ¬ Op.Un m x from by rw [hxe]; exact hu)
  rw [← hxe] at hcell hx
  rw [← hn] at hpos h1 hcell ⊢
  have HX := Lib.hid (show x = Op.ld b from hxe)
  have HXB := Lib.hid hx
  have e1 : ((n - 1 : Nat) : Int) = (n : Int) - 1 := by omega
  have e2 : ((n : Int) - 1).toNat = n - 1 := by omega
  have hp0 : (0 : Int) < (n : Int) := by omega
  have hb0 : ((n : Int) == 0) = false := by simp; omega
  have hlt : g < w.heap.size := World.block_lt_of_cell? w _ hcell
  have hn1 : ¬ (g = w.heap.size) := by omega
  have hn2 : ¬ (w.heap.size = g) := by omega
  clear hu hc hd hn hxe hb hne hm hx
  go_enter Try.func94, Try.ntmps94
  go_wp2_with fail
  refine (inv_none m x _ HM.out HXB.out HU.out).mono ?_
  rintro e w1 ⟨rfl, hg⟩
  have HG := Lib.hid ((Gr.new w _).trans hg)
  have hc0 := hg.keeps (p := ⟨w.heap.size, 0, none⟩) (v := .int .u32 0) (by simp [go_sem])
  have hc1 := hg.keeps (p := ⟨w.heap.size, 1, none⟩) (v := .slice none 0 0) (by simp [go_sem])
  have hc2 := hg.keeps (p := ⟨w.heap.size, 2, none⟩) (v := .int .u32 0) (by simp [go_sem])
  have hf : ∀ j, w1.frozen? ⟨w.heap.size, j, none⟩ = false := fun j => (hg.frozen (p := ⟨w.heap.size, j, none⟩) (by simp)).trans (by simp [go_sem])
  have hf0 := hf 0
  have hf1 := hf 1
  have hf2 := hf 2
  clear hg hf
  go_wp2_with fail
  refine bodyPost_ret (v := .tuple #[.agg #[.int .u32 m, .slice (some ⟨g, o, none⟩) n cap, .int .u32 0], .int .i64 7]) (by simp [results, Try.results94, go_sem, hc0, hc1, hc2]) rfl ?_
  exact ⟨_, _, _, _, rfl, ((HG.out.setCell (p := ⟨w.heap.size, 0, none⟩) (Nat.le_refl _) _).setCell (p := ⟨w.heap.size, 1, none⟩) (Nat.le_refl _) _).setCell (p := ⟨w.heap.size, 2, none⟩) (Nat.le_refl _) _⟩
end Go.Proofs.Ytplfeeaocjgliaa
/- divide. -/
namespace Go.Proofs.Ytplfeeaocjgliaa
open Go.RowKit
set_option linter.unusedVariables false

/-- Quotient and rest are returned, as new memory. -/
def DivP (m : Int) (a b : List Int) (w : World) (e : Ending) (w' : World) : Prop :=
  ∃ x1 n1 c1 x2 n2 c2 q r, e = .returned (.tuple #[.slice x1 n1 c1, .slice x2 n2 c2]) ∧ HasP w' (.slice x1 n1 c1) q ∧ HasP w' (.slice x2 n2 c2) r ∧ Op.Dv m a b q r ∧
    (∀ p, x1 = some p → w.heap.size ≤ p.block) ∧ (∀ p, x2 = some p → w.heap.size ≤ p.block) ∧ Gr w w'

set_option maxRecDepth 100000 in
set_option maxHeartbeats 1000000 in
theorem divide_short (m : Int) (a b : List Int) (u v : Value) (rc : Int) (w : World) (hm : 2 ≤ m ∧ m ≤ 2147483647) (ha : Op.Nf m a) (hu : HasP w u a) (hv : HasP w v b) (hla : a.length ≤ 100000) (hlt : a.length < b.length) :
    Calls Try.prog 95 #[.agg #[.int .u32 m, v, .int .u32 rc], u] w (DivP m a b w) := by
  have HA := Lib.hid ha
  have HU := Lib.hid hu
  have HB := Lib.hid (show a.length < b.length from hlt)
  obtain ⟨-, ad, cap, rfl, a1, a2, -⟩ := hu
  obtain ⟨-, bd, capb, rfl, b1, b2, -⟩ := hv
  obtain ⟨la, hla'⟩ : ∃ la, la = a.length := ⟨_, rfl⟩
  obtain ⟨lb, hlb'⟩ : ∃ lb, lb = b.length := ⟨_, rfl⟩
  rw [← hla'] at a1 hla hlt HU ⊢
  rw [← hlb'] at b1 hlt ⊢
  have HLA := Lib.hid hla'
  have hlen : ([] : List Int).length + a.length ≤ 1000000 := by have := HLA.out; simp; omega
  clear hla' hlb' ha hm
  go_enter Try.func95, Try.ntmps95
  go_wp2_with (at_builtin; refine wpList_app rfl (.tmp 8) (.tmp 9) rfl rfl (w.heap.size + 1) (.slice none 0 0) [] rfl (Own1.nil _ _) (.slice ad la cap) a rfl (HU.out.later (Gr.new w _)) hlen (by simp) ?_; intro v' w2 hown hgrow; have HO := Lib.hid hown; have hGB : Gr (w.alloc (.cells #[.int .u32 m, .slice bd lb capb, .int .u32 rc] 115)) w2 := grown_own (Gr.refl _) (Own1.nil _ (w.heap.size + 1)) hgrow (by simp); have hc0 := hGB.keeps (p := ⟨w.heap.size, 0, none⟩) (v := .int .u32 m) (by simp [go_sem]); have hc1 := hGB.keeps (p := ⟨w.heap.size, 1, none⟩) (v := .slice bd lb capb) (by simp [go_sem]); have hc2 := hGB.keeps (p := ⟨w.heap.size, 2, none⟩) (v := .int .u32 rc) (by simp [go_sem]); have HG := Lib.hid ((Gr.new w _).trans hGB); clear hown hgrow hGB)
  go_ret2
  obtain ⟨ar, cr, rfl, hr1, hr2⟩ := HO.out.form
  exact ⟨none, 0, 0, ar, _, cr, [], a, rfl, HasP.nil _, by have h := HO.out.hasP; rw [List.nil_append] at h ⊢; exact h, ⟨Op.Nf.nil m, HA.out, HB.out, Op.Cg.of (fun i => by simp)⟩, (fun p hp => by cases hp), (fun p hp => Nat.le_of_succ_le (HO.out.fresh rfl p hp)), HG.out⟩

theorem cf_put_one {q : List Int} {j : Nat} {t : Int} (hj : j < q.length) (h0 : Op.cf q j = 0) (i : Nat) : Op.cf (put q j [t]) i = Op.cf (Op.add q (Op.sh j [t])) i := by
  have hl : ([t] : List Int).length = 1 := rfl
  rw [cf_put (by rw [hl]; omega), Op.cf_add, Op.cf_sh, hl]
  by_cases h1 : i < j
  · rw [if_neg (by omega), if_pos h1]; omega
  · by_cases h2 : i = j
    · subst h2
      rw [if_pos (by omega), if_neg h1, Nat.sub_self, h0]; simp
    · rw [if_neg (by omega), if_neg h1, Op.cf_out (l := [t]) (by rw [hl]; omega)]; omega
theorem mul_put_one {q b : List Int} {j : Nat} {t : Int} (hj : j < q.length) (h0 : Op.cf q j = 0) (i : Nat) : Op.cf (Op.mul (put q j [t]) b) i = Op.cf (Op.mul q b) i + Op.cf (Op.sh j (Op.sc t b)) i := by
  rw [Op.mul_congr (cf_put_one hj h0) (fun _ => rfl), Op.mul_add_left, Op.mul_sh_left]
  congr 1
  rw [Op.cf_sh, Op.cf_sh]
  split
  · rfl
  · rw [Op.cf_sc]
    exact Int.sub_eq_zero.1 (Int.zero_dvd.1 (by have := Op.cg_scn' 0 t b (i - j); rwa [Op.cf_sc] at this))
/-- One step of the division. -/
theorem div_step {m t x rc kk : Int} {a b q r pre : List Int} {j : Nat} (hm : 2 ≤ m) (hj : j < q.length) (h0 : Op.cf q j = 0) (hb : 0 < b.length) (hfit : j + b.length ≤ r.length)
    (hx : x = Op.cf r (j + (b.length - 1))) (ht : t = x * rc % m) (hrc : m ∣ Op.ld b * rc - 1) (hkk : kk = (m - 1) * t % m) (hpl : pre.length = b.length) (hpc : ∀ i, i < b.length → Op.cf pre i = (Op.cf (r.drop j) i + kk * Op.cf b i) % m)
    (hr0 : ∀ i, j + 1 + (b.length - 1) ≤ i → Op.cf r i = 0) (hcg : Op.Cg m a (Op.add (Op.mul q b) r)) :
    (∀ i, j + (b.length - 1) ≤ i → Op.cf (put r j pre) i = 0) ∧ Op.Cg m a (Op.add (Op.mul (put q j [t]) b) (put r j pre)) := by
  have hk1 : m ∣ kk + t := by
    rw [hkk]
    have h1 := Op.dvd_mod m ((m - 1) * t)
    have e : (m - 1) * t % m + t = ((m - 1) * t % m - (m - 1) * t) + m * t := by rw [Int.sub_mul]; omega
    rw [e]; exact Int.dvd_add h1 (Int.dvd_mul_right m t)
  have hk2 : m ∣ t - x * rc := by rw [ht]; exact Op.dvd_mod m (x * rc)
  constructor
  · intro i hi
    rw [cf_put (by rw [hpl]; exact hfit)]
    by_cases h1 : i = j + (b.length - 1)
    · subst h1
      rw [if_pos (by rw [hpl]; omega), show j + (b.length - 1) - j = b.length - 1 from by omega, hpc _ (by omega), Op.cf_drop, ← hx]
      show (x + kk * Op.ld b) % m = 0
      apply Int.emod_eq_zero_of_dvd
      have e : x + kk * Op.ld b = (kk + t) * Op.ld b - (t - x * rc) * Op.ld b - x * (Op.ld b * rc - 1) := by
        rw [Int.add_mul, Int.sub_mul, Int.mul_sub, Int.mul_assoc, Int.mul_comm rc (Op.ld b)]; omega
      rw [e]
      exact Int.dvd_sub (Int.dvd_sub (Int.dvd_mul_of_dvd_left hk1) (Int.dvd_mul_of_dvd_left hk2)) (Int.dvd_mul_of_dvd_right hrc)
    · rw [if_neg (by rw [hpl]; omega)]; exact hr0 i (by omega)
  · intro i
    have h2 := hcg i
    rw [Op.cf_add] at h2
    rw [Op.cf_add, mul_put_one hj h0, cf_put (by rw [hpl]; exact hfit), Op.cf_sh, hpl]
    by_cases h1 : j ≤ i ∧ i < j + b.length
    · rw [if_neg (by omega), if_pos h1, hpc (i - j) (by omega), Op.cf_drop, show j + (i - j) = i from by omega, Op.cf_sc]
      have h3 := Op.dvd_mod m (Op.cf r i + kk * Op.cf b (i - j))
      have e : Op.cf a i - (Op.cf (Op.mul q b) i + t * Op.cf b (i - j) + (Op.cf r i + kk * Op.cf b (i - j)) % m) = (Op.cf a i - (Op.cf (Op.mul q b) i + Op.cf r i)) - ((Op.cf r i + kk * Op.cf b (i - j)) % m - (Op.cf r i + kk * Op.cf b (i - j))) - (kk + t) * Op.cf b (i - j) := by
        rw [Int.add_mul]; omega
      rw [e]
      exact Int.dvd_sub (Int.dvd_sub h2 h3) (Int.dvd_mul_of_dvd_left hk1)
    · rw [if_neg h1]
      have e : (if i < j then (0 : Int) else Op.cf (Op.sc t b) (i - j)) = 0 := by
        split
        · rfl
        · rw [Op.cf_out (by rw [Op.sc_len]; omega)]
      rw [e, Int.add_zero]; exact h2
theorem Row.part1 {W : World} {g o n : Nat} {l : List Int} (h : Row W g l) (ho : o + n ≤ l.length) : ∃ cur, Rw W g cur ∧ o + n ≤ cur.size := by
  obtain ⟨_, cur, h1, h2, _⟩ := h
  exact ⟨cur, h1, by omega⟩
theorem Row.far {W W' : World} {g g' o : Nat} {l pre : List Int} (h : Row W g' l) (hu : Upd g o pre W W') (hne : g' ≠ g) : Row W' g' l := by
  obtain ⟨h0, cur, h1, h2⟩ := h
  exact ⟨h0, cur, by show W'.heap[g']? = _; rw [hu.block g' hne]; exact h1, h2⟩

/-- The quotient has no zero at its end. -/
theorem quo_top {m : Int} {a b q r : List Int} (hm : 0 < m) (ha : Op.Nf m a) (hb : 0 < b.length) (hl : q.length + (b.length - 1) = a.length) (hq : 1 ≤ q.length) (hr : ∀ i, b.length - 1 ≤ i → Op.cf r i = 0) (h : Op.Cg m a (Op.add (Op.mul q b) r)) : Op.tz q = q := by
  apply Op.tz_id
  intro hne h0
  have ht := Op.top_mul q b hne (by intro e; rw [e] at hb; simp at hb)
  have h1 := h (q.length - 1 + (b.length - 1))
  rw [Op.cf_add, ht, hr _ (by omega)] at h1
  have e0 : Op.ld q = 0 := h0
  rw [e0, Int.zero_mul, Int.add_zero, Int.sub_zero] at h1
  have e1 : q.length - 1 + (b.length - 1) = a.length - 1 := by omega
  rw [e1] at h1
  have h2 := Op.tz_last ha.2 (by intro e; rw [e, List.length_nil] at hl; omega)
  have h3 := Op.rs_cf hm ha.1 (a.length - 1)
  have h4 := Int.le_of_dvd (by omega) h1
  omega
/-- What the loop of divide knows: k elements of the quotient are still to be found. -/
def DivI (m : Int) (a b : List Int) (la lb n gq gr : Nat) (k : Nat) (q r : List Int) (W : World) : Prop :=
  k ≤ n ∧ Row W gq q ∧ q.length = n ∧ Row W gr r ∧ r.length = la ∧ Op.Rs m q ∧ Op.Rs m r ∧ (∀ j, j < k → Op.cf q j = 0) ∧ (∀ j, k + (lb - 1) ≤ j → Op.cf r j = 0) ∧ Op.Cg m a (Op.add (Op.mul q b) r)

set_option maxRecDepth 100000 in
set_option maxHeartbeats 2000000 in
theorem divide_long (m : Int) (a b : List Int) (u v : Value) (rc : Int) (w : World) (hm : 2 ≤ m ∧ m ≤ 2147483647) (ha : Op.Nf m a) (hb : Op.Rs m b) (hrc : 0 ≤ rc ∧ rc < m) (hrc2 : m ∣ Op.ld b * rc - 1) (hu : HasP w u a) (hv : HasP w v b) (hla : a.length ≤ 100000) (hlt : b.length ≤ a.length) (hne : 0 < b.length) :
    Calls Try.prog 95 #[.agg #[.int .u32 m, v, .int .u32 rc], u] w (DivP m a b w) := by
  have HA := Lib.hid ha
  have HB := Lib.hid hb
  have HU := Lib.hid hu
  have HV := Lib.hid hv
  have HRC := Lib.hid hrc2
  obtain ⟨da, ad, cap, rfl, a1, a2, -⟩ := hu
  obtain ⟨db, bd, capb, rfl, b1, b2, -⟩ := hv
  obtain ⟨la, hla'⟩ : ∃ la, la = a.length := ⟨_, rfl⟩
  obtain ⟨lb, hlb'⟩ : ∃ lb, lb = b.length := ⟨_, rfl⟩
  rw [← hla'] at a1 hla hlt HU ⊢
  rw [← hlb'] at b1 hlt hne HV ⊢
  have HLA := Lib.hid hla'
  have HLB := Lib.hid hlb'
  have HDB := Lib.hid db
  obtain ⟨hm1, hm2⟩ := hm
  obtain ⟨hrc0, hrc1⟩ := hrc
  have hlen : ([] : List Int).length + a.length ≤ 1000000 := by have := HLA.out; simp; omega
  have hp0 : (0 : Int) < (lb : Int) := by omega
  have hlt' : ¬ (la : Int) < (lb : Int) := by omega
  obtain ⟨n, hn⟩ : ∃ n, n = la - (lb - 1) := ⟨_, rfl⟩
  have hn0 : 1 ≤ n := by omega
  have hnl : n + (lb - 1) = la := by omega
  have hmk := mk_row n ((la : Int) - ((lb : Int) - 1)) (by omega) (by omega)
  clear hla' hlb' ha hb hrc2 hn da db
  go_enter Try.func95, Try.ntmps95
  go_wp2_with (at_builtin; refine wpList_app rfl (.tmp 8) (.tmp 9) rfl rfl (w.heap.size + 1) (.slice none 0 0) [] rfl (Own1.nil _ _) (.slice ad la cap) a rfl (HU.out.later (Gr.new w _)) hlen (by simp) ?_; intro v' w2 hown hgrow; have HO := Lib.hid hown; have hGB : Gr (w.alloc (.cells #[.int .u32 m, .slice bd lb capb, .int .u32 rc] 115)) w2 := grown_own (Gr.refl _) (Own1.nil _ (w.heap.size + 1)) hgrow (by simp); have hc0 := hGB.keeps (p := ⟨w.heap.size, 0, none⟩) (v := .int .u32 m) (by simp [go_sem]); have hc1 := hGB.keeps (p := ⟨w.heap.size, 1, none⟩) (v := .slice bd lb capb) (by simp [go_sem]); have hc2 := hGB.keeps (p := ⟨w.heap.size, 2, none⟩) (v := .int .u32 rc) (by simp [go_sem]); have hsz2 := hGB.size; rw [World.size_alloc] at hsz2; have hnb1 : ¬ (w.heap.size = w2.heap.size) := (by omega); have hnb2 : ¬ (w2.heap.size = w.heap.size) := (by omega); have HG := Lib.hid ((Gr.new w _).trans hGB); clear hown hgrow hGB)
  obtain ⟨gr, cr, hv', hgr, hcr1, hcr2, hrow⟩ := HO.out.row (by rw [List.nil_append, ← HLA.out]; omega)
  have hgl := hrow.lt
  rw [List.nil_append] at hv' hcr1 hrow
  rw [← HLA.out] at hv' hcr1
  subst hv'
  have HROW := Lib.hid (show Row (w2.alloc (.cells (zrow n) 22)) gr a from hrow.later (Gr.new _ _))
  have hc0' : (w2.alloc (.cells (zrow n) 22)).cell? ⟨w.heap.size, 0, none⟩ = some (.int .u32 m) := (Gr.new _ _).keeps hc0
  have hc1' : (w2.alloc (.cells (zrow n) 22)).cell? ⟨w.heap.size, 1, none⟩ = some (.slice bd lb capb) := (Gr.new _ _).keeps hc1
  have hc2' : (w2.alloc (.cells (zrow n) 22)).cell? ⟨w.heap.size, 2, none⟩ = some (.int .u32 rc) := (Gr.new _ _).keeps hc2
  have HB3 := Lib.hid (And.intro hc0' (And.intro hc1' (And.intro hc2' (HG.out.alloc (.cells (zrow n) 22)))))
  have hq1 : ¬ (gr = w2.heap.size) := by omega
  have hq2 : ¬ (w2.heap.size = gr) := by omega
  obtain ⟨gq, hgq⟩ : ∃ gq, gq = w2.heap.size := ⟨_, rfl⟩
  have HZ := Lib.hid (show Row (w2.alloc (.cells (zrow n) 22)) gq (List.replicate n 0) from by rw [hgq]; exact Row.zeros w2 n)
  rw [← hgq] at hq1 hq2 hnb1 hnb2 hsz2 hgl ⊢
  have HGQ := Lib.hid hgq
  clear hrow hc0 hc1 hc2 hc0' hc1' hc2' hmk hgq HO
  have hsz3 : w.heap.size ≤ gq := by omega
  go_loopw [7] (fun t wr => ∃ k q r, t = .int .i64 ((k : Nat) - 1 : Int) ∧ DivI m a b la lb n gq gr k q r wr ∧ (wr.cell? ⟨w.heap.size, 0, none⟩ = some (.int .u32 m) ∧ wr.cell? ⟨w.heap.size, 1, none⟩ = some (.slice bd lb capb) ∧ wr.cell? ⟨w.heap.size, 2, none⟩ = some (.int .u32 rc) ∧ Gr w wr)) (fun t _ => (intOf t + 1).toNat)
  case atStart => exact ⟨n, List.replicate n 0, a, rfl, ⟨Nat.le_refl _, HZ.out, by simp, HROW.out, HLA.out.symm, (fun x hx => by rw [List.eq_of_mem_replicate hx]; omega), HA.out.1, (fun j _ => cf_rep n j), (fun j hj => Op.cf_out (by have := HLA.out; omega)), Op.Cg.of (fun i => by
      have h : ∀ i, Op.cf (List.replicate n 0) i = Op.cf [] i := fun i => by rw [cf_rep, Op.cf_nil]
      rw [Op.cf_add, Op.mul_congr h (fun _ => rfl), Op.cf_mul_nil, Int.zero_add])⟩, HB3.out⟩
  case round =>
    obtain ⟨k, q, r, rfl, ⟨hk, hrq, hql, hrr, hrl, hsq, hsr, hq0, hr0, hcg⟩, hb0, hb1, hb2, hg⟩ := hrel
    have HRQ := Lib.hid hrq
    have HQL := Lib.hid hql
    have HRR := Lib.hid hrr
    have HRL := Lib.hid hrl
    have HSQ := Lib.hid hsq
    have HSR := Lib.hid hsr
    have HQ0 := Lib.hid hq0
    have HR0 := Lib.hid hr0
    have HCG := Lib.hid hcg
    have HGW := Lib.hid hg
    clear hrq hql hrr hrl hsq hsr hq0 hr0 hcg hg
    rcases k with _ | j
    · have HREST := Lib.hid ((HRR.out.hasP (cap := cr) (by rw [HRL.out]; exact hcr1) hcr2).take (k := lb - 1) (by rw [HRL.out]; omega))
      have e1 : ((lb : Int) - 1).toNat = lb - 1 := by omega
      go_wp2_with fail
      refine (trimmed_any _ _ _ _ _ HREST.out).mono ?_
      rintro e w4 ⟨rfl, rfl⟩
      go_wp2_with fail
      go_ret2
      have HQ := HRQ.out.hasP (cap := n) (by rw [HQL.out]; omega) (by omega)
      rw [HQL.out] at HQ
      have hqt : Op.tz q = q := quo_top (by omega) HA.out (by rw [← HLB.out]; exact hne) (by rw [HQL.out, ← HLB.out, ← HLA.out]; exact hnl) (by rw [HQL.out]; exact hn0) (fun i hi => HR0.out i (by have := HLB.out; omega)) HCG.out
      exact ⟨_, _, _, _, _, _, q, Op.tz (r.take (lb - 1)), rfl, HQ, HREST.out.tz, ⟨⟨HSQ.out, hqt⟩, ⟨fun x hx => HSR.out x (List.mem_of_mem_take (Op.tz_mem hx)), Op.tz_tz _⟩, (by have h1 := Op.tz_len (r.take (lb - 1)); rw [List.length_take] at h1; have := HLB.out; omega), HCG.out.trans ((Op.Cg.refl m _).add (Op.Cg.of (fun i => by
        rw [Op.cf_tz, Op.cf_take]
        split
        · rfl
        · exact HR0.out i (by omega))))⟩, (fun p hp => by cases hp; exact hsz3), (fun p hp => by cases hp; exact Nat.le_of_succ_le hgr), HGW.out⟩
    · have i2 : ((j + 1 : Nat) : Int) - 1 = (j : Int) := by omega
      rw [i2]
      have i3 : IntKind.i64.wrap ((j : Int) + ((lb : Int) - 1)) = (j : Int) + ((lb : Int) - 1) := IntWalk.i64_in _ (by omega)
      have i4 : ((j : Int) + ((lb : Int) - 1)).toNat = j + (lb - 1) := by omega
      have i5 : (0 : Int) ≤ (j : Int) + ((lb : Int) - 1) := by omega
      have i6 : (j : Int) + ((lb : Int) - 1) < (la : Int) := by omega
      have i7 : (j : Int) < (n : Int) := by omega
      have hct := HRR.out.cell (j := j + (lb - 1)) (by rw [HRL.out]; omega)
      have hcq := HRQ.out.cell (j := j) (by rw [HQL.out]; omega)
      have hfq := HRQ.out.frozen j
      have hxb := Op.rs_cf (show 0 < m by omega) HSR.out (j + (lb - 1))
      obtain ⟨x, hx⟩ : ∃ x, x = Op.cf r (j + (lb - 1)) := ⟨_, rfl⟩
      rw [← hx] at hct hxb
      rw [HQ0.out j (by omega)] at hcq
      have HX := Lib.hid hx
      have HXB := Lib.hid hxb
      clear hx hxb
      go_wp2_with fail
      go_region_held3 (fun wz => wz.cell? ⟨w.heap.size, 0, none⟩ = some (.int .u32 m) ∧ wz.cell? ⟨w.heap.size, 2, none⟩ = some (.int .u32 rc) ∧ wz.cell? ⟨gr, j + (lb - 1), none⟩ = some (.int .u32 x)) (go_keep)
        (first | (go_at_call 111; refine (plus_any m 0 x rc _ (by omega) (by omega) (by have := HXB.out; omega) (by omega)).mono ?_; rintro e w' ⟨rfl, rfl⟩))
      obtain ⟨t, ht⟩ : ∃ t, t = x * rc % m := ⟨_, rfl⟩
      have ht0 : 0 ≤ t := by rw [ht]; exact Int.emod_nonneg _ (by omega)
      have ht1 : t < m := by rw [ht]; exact Int.emod_lt_of_pos _ (by omega)
      rw [← ht]
      have HT := Lib.hid ht
      obtain ⟨W1, hW1⟩ : ∃ W1, W1 = (wr.setCell ⟨gq, j, none⟩ (.int .u32 t)).drew := ⟨_, rfl⟩
      have hU1 : Upd gq j [t] wr W1 := by
        rw [hW1]
        obtain ⟨_, cur, h1, h2, _⟩ := HRQ.out
        have h := (Upd.start (o := j) h1 (by rw [HQL.out] at h2; omega)).step (k := 0) (d := t) rfl (v := .int .u32 0) (by rw [Nat.add_zero]; exact hcq)
        rw [Nat.add_zero] at h
        exact h.drewN 1
      rw [← hW1]
      have HU1 := Lib.hid hU1
      have HRQ1 := Lib.hid (show Row W1 gq (put q j [t]) from HRQ.out.upd hU1 (U32.one (by omega)) (by rw [HQL.out]; simp; omega))
      have HRR1 := Lib.hid (show Row W1 gr r from HRR.out.far hU1 hq1)
      have hb0' : W1.cell? ⟨w.heap.size, 0, none⟩ = some (.int .u32 m) := (hU1.cell_other (p := ⟨w.heap.size, 0, none⟩) hnb1).trans hb0
      have hb1' : W1.cell? ⟨w.heap.size, 1, none⟩ = some (.slice bd lb capb) := (hU1.cell_other (p := ⟨w.heap.size, 1, none⟩) hnb1).trans hb1
      have hb2' : W1.cell? ⟨w.heap.size, 2, none⟩ = some (.int .u32 rc) := (hU1.cell_other (p := ⟨w.heap.size, 2, none⟩) hnb1).trans hb2
      have HG1 := Lib.hid (show Gr w W1 from hU1.gr HGW.out hsz3)
      have hct1 : W1.cell? ⟨gq, j, none⟩ = some (.int .u32 t) := by
        have h := HRQ1.out.cell (j := j) (by rw [put_len (by rw [HQL.out]; simp; omega), HQL.out]; omega)
        rw [cf_put (by rw [HQL.out]; simp; omega), if_pos (by simp), Nat.sub_self] at h
        exact h
      clear hW1 hU1 ht hcq hfq hct hb0 hb1 hb2
      have hgr0 : ¬ (w.heap.size = gr) := by omega
      have hfr := from_eq (some ⟨gr, 0, none⟩) la cr j (by omega)
      rw [if_neg (by omega), show (some (⟨gr, 0, none⟩ : Addr)).map (·.add j) = some ⟨gr, j, none⟩ from congrArg some ((addr_add rfl _ rfl).trans (by rw [Nat.zero_add]))] at hfr
      obtain ⟨kk, hkk⟩ : ∃ kk, kk = (0 + (m - 1) * t) % m := ⟨_, rfl⟩
      have hk0 : 0 ≤ kk ∧ kk < m := by rw [hkk]; exact ⟨Int.emod_nonneg _ (by omega), Int.emod_lt_of_pos _ (by omega)⟩
      have HKK := Lib.hid hkk
      have HK0 := Lib.hid hk0
      clear hkk hk0
      have HMB := Lib.hid (show 1 ≤ m ∧ m ≤ 4294967295 from by omega)
      have HKB := Lib.hid (show 0 ≤ kk ∧ kk < 4294967296 from by have := HK0.out; omega)
      have HQ1 := Lib.hid (show ∃ cur, Rw W1.drew gr cur ∧ j + (la - j) ≤ cur.size from HRR1.out.part1 (by rw [HRL.out]; omega))
      have HQ2 := Lib.hid (show U32 (r.drop j) from HRR1.out.1.drop j)
      have HQ3 := Lib.hid (show ∀ i, i < la - j → W1.drew.cell? ⟨gr, j + i, none⟩ = some (.int .u32 (Op.cf (r.drop j) i)) from fun i hi => by rw [Op.cf_drop]; exact HRR1.out.cell (by rw [HRL.out]; omega))
      have HQ4 := Lib.hid (show la - j ≤ cr - j from by omega)
      have HQ5 := Lib.hid (show cr - j ≤ 9223372036854775807 from by omega)
      have HQ6 := Lib.hid (show HasP W1.drew (.slice bd lb capb) b from HV.out.later (HG1.out.drewN 1))
      have HQ7 := Lib.hid (show 0 < b.length → (Value.slice bd lb capb).ownBlock ≠ some gr from fun h0 e => by
        obtain ⟨bb, e2, hb3⟩ := HV.out.block h0
        rw [e2] at e
        have := Option.some.inj e
        omega)
      have HQ8 := Lib.hid (show b.length ≤ la - j from by rw [← HLB.out]; omega)
      go_wp2_with fail
      go_region_held3 (fun wz => wz.cell? ⟨w.heap.size, 0, none⟩ = some (.int .u32 m) ∧ wz.cell? ⟨w.heap.size, 1, none⟩ = some (.slice bd lb capb) ∧ wz.cell? ⟨gq, j, none⟩ = some (.int .u32 t)) (go_keep)
        (first
          | (go_at_call 112; refine (less_any m 0 t _ (by omega) (by omega) (by omega)).mono ?_; rintro e w' ⟨rfl, rfl⟩; rw [← HKK.out])
          | (go_at_call 107; refine (add_any gr j (la - j) (cr - j) m kk (r.drop j) b _ _ HMB.out HKB.out (HQ1.out) (HQ2.out) (HQ3.out) HQ4.out HQ5.out (HQ6.out) (HQ7.out) HQ8.out).mono ?_; rintro e w3 ⟨pre, rfl, hp1, hp2, hp3, hup⟩; have HP1 := Lib.hid hp1; have HP2 := Lib.hid hp2; have HP3 := Lib.hid hp3; have HUP := Lib.hid (show Upd gr j pre W1 w3 from ⟨hup.os, hup.tape, hup.output, hup.size, hup.block, hup.row⟩); have hb0 := (HUP.out.cell_other (p := ⟨w.heap.size, 0, none⟩) hgr0).trans hb0'; have hb1 := (HUP.out.cell_other (p := ⟨w.heap.size, 1, none⟩) hgr0).trans hb1'; have hcq := (HUP.out.cell_other (p := ⟨gq, j, none⟩) hq2).trans hct1; clear hp1 hp2 hp3 hup))
      have hstep := div_step (by omega) (by rw [HQL.out]; omega) (HQ0.out j (by omega)) (by rw [← HLB.out]; exact hne) (by rw [← HLB.out, HRL.out]; omega) (by rw [← HLB.out]; exact HX.out) HT.out HRC.out (show kk = (m - 1) * t % m from by rw [HKK.out, Int.zero_add]) HP1.out HP2.out (fun i hi => HR0.out i (by have := HLB.out; omega)) HCG.out
      have hfit : j + pre.length ≤ r.length := by rw [HP1.out, ← HLB.out, HRL.out]; omega
      have HI := Lib.hid (show DivI m a b la lb n gq gr j (put q j [t]) (put r j pre) w3 from ⟨by omega, HRQ1.out.far HUP.out hq2, (by rw [put_len (by rw [HQL.out]; simp; omega)]; exact HQL.out), HRR1.out.upd HUP.out HP3.out hfit, (by rw [put_len hfit]; exact HRL.out), Op.rs_put HSQ.out (fun y hy => by simp at hy; subst hy; omega), Op.rs_put HSR.out (Op.rs_mod (by omega) (fun i hi => HP2.out i (by have := HP1.out; omega))), (fun i hi => by rw [cf_put (by rw [HQL.out]; simp; omega), if_neg (by omega)]; exact HQ0.out i (by omega)), (fun i hi => hstep.1 i (by have := HLB.out; omega)), hstep.2⟩)
      have HG3 := Lib.hid (show Gr w w3 from HUP.out.gr HG1.out (by omega))
      have HB2 := Lib.hid (show w3.cell? ⟨w.heap.size, 2, none⟩ = some (.int .u32 rc) from (HUP.out.cell_other (p := ⟨w.heap.size, 2, none⟩) hgr0).trans hb2')
      clear hstep hfit
      go_wp2_with fail
      go_roundw
      case rel => exact ⟨j, _, _, rfl, HI.out, hb0, hb1, HB2.out, HG3.out⟩
      case measure => simp [intOf]
end Go.Proofs.Ytplfeeaocjgliaa
/- divide, rest, power, common. -/
namespace Go.Proofs.Ytplfeeaocjgliaa
open Go.RowKit
set_option linter.unusedVariables false

/-- What is asked of a divisor. -/
def DvsOK (m rc : Int) (b : List Int) : Prop := (2 ≤ m ∧ m ≤ 2147483647) ∧ Op.Rs m b ∧ 0 < b.length ∧ (0 ≤ rc ∧ rc < m) ∧ m ∣ Op.ld b * rc - 1
theorem divide_any (m rc : Int) (a b : List Int) (u v : Value) (w : World) (hd : DvsOK m rc b) (ha : Op.Nf m a) (hu : HasP w u a) (hv : HasP w v b) (hla : a.length ≤ 100000) :
    Calls Try.prog 95 #[.agg #[.int .u32 m, v, .int .u32 rc], u] w (DivP m a b w) := by
  obtain ⟨hm, hb, hne, hrc, hi⟩ := hd
  by_cases h : a.length < b.length
  · exact divide_short m a b u v rc w hm ha hu hv hla h
  · exact divide_long m a b u v rc w hm ha hb hrc hi hu hv hla (by omega) hne
/-- The rest is returned, as new memory. -/
def RestP (m : Int) (a b : List Int) (w : World) (e : Ending) (w' : World) : Prop :=
  ∃ x n c r, e = .returned (.slice x n c) ∧ HasP w' (.slice x n c) r ∧ Op.Rem m b a r ∧ (∀ p, x = some p → w.heap.size ≤ p.block) ∧ Gr w w'

set_option maxRecDepth 100000 in
set_option maxHeartbeats 1000000 in
theorem rest_any (m rc : Int) (a b : List Int) (u : Value) (bd : Option Addr) (lb cb : Nat) (w : World) (hd : DvsOK m rc b) (ha : Op.Nf m a) (hu : HasP w u a) (hv : HasP w (.slice bd lb cb) b) (hla : a.length ≤ 100000) :
    Calls Try.prog 115 #[.agg #[.int .u32 m, .slice bd lb cb, .int .u32 rc], u] w (RestP m a b w) := by
  have HD := Lib.hid hd
  have HA := Lib.hid ha
  have HU := Lib.hid hu
  have HV := Lib.hid hv
  have HLA := Lib.hid hla
  clear hd ha hu hv hla
  go_enter Try.func115, Try.ntmps115
  go_wp2_with fail
  refine (divide_any m rc a b _ _ _ HD.out HA.out (HU.out.later (Gr.new w _)) (HV.out.later (Gr.new w _)) HLA.out).mono ?_
  rintro e w2 ⟨x1, n1, c1, x2, n2, c2, q, r, rfl, hq, hr, hdv, hf1, hf2, hg⟩
  have H := Lib.hid (And.intro hr (And.intro hdv (And.intro hf2 hg)))
  clear hq hr hdv hf1 hf2 hg
  go_wp2_with fail
  go_ret
  obtain ⟨hr, hdv, hf2, hg⟩ := H.out
  exact ⟨_, _, _, r, rfl, hr, hdv.rem, (fun p hp => by have := hf2 p hp; rw [World.size_alloc] at this; omega), (Gr.new w _).trans hg⟩

/-- The remainder of a power is returned. -/
def PowP (m : Int) (a b : List Int) (N : Nat) (w : World) (e : Ending) (w' : World) : Prop :=
  ∃ x n c r, e = .returned (.slice x n c) ∧ HasP w' (.slice x n c) r ∧ Op.Rem m b (Op.pw a N) r ∧ (∀ p, x = some p → w.heap.size ≤ p.block) ∧ Gr w w'

theorem one_nf {m : Int} (hm : 2 ≤ m) : Op.Nf m [1] := ⟨fun x hx => by simp at hx; subst hx; omega, rfl⟩

set_option maxRecDepth 100000 in
set_option maxHeartbeats 2000000 in
theorem power_any' (m rc : Int) (a b : List Int) (N : Nat) (u : Value) (bd : Option Addr) (lb cb : Nat) (w : World) (hd : DvsOK m rc b) (ha : Op.Nf m a) (hu : HasP w u a) (hv : HasP w (.slice bd lb cb) b) (hla : a.length ≤ 1000) (hlb : b.length ≤ 1000) (hN : N ≤ 18446744073709551615) :
    Calls Try.prog 108 #[.agg #[.int .u32 m, .slice bd lb cb, .int .u32 rc], u, .int .u64 N] w (PowP m a b N w) := by
  have HD := Lib.hid hd
  have HA := Lib.hid ha
  have HV := Lib.hid hv
  have HLA := Lib.hid hla
  have HLB := Lib.hid hlb
  have HU := Lib.hid hu
  obtain ⟨-, ua, uc, rfl, -, -, -⟩ := hu
  obtain ⟨la, hla'⟩ : ∃ la, la = a.length := ⟨_, rfl⟩
  rw [← hla'] at HU ⊢
  have HL := Lib.hid hla'
  have HMB := Lib.hid (show 1 ≤ m ∧ m ≤ 4294967295 from by have := HD.out.1; omega)
  have HM2 := Lib.hid hd.1.1
  clear hd ha hv hla hlb hla'
  go_enter Try.func108, Try.ntmps108
  go_wp2_with fail
  refine (rest_any m rc [1] b _ bd lb cb _ HD.out (one_nf HM2.out) (one_hasP' _ 1 _ (by simp) (by omega)) (HV.out.later ((Gr.new w _).alloc _)) (by simp)).mono ?_
  rintro e w2 ⟨x, n, c, r, rfl, hr, hrem, hf, hg⟩
  have hg1 : Gr (w.alloc (.cells #[.int .u32 m, .slice bd lb cb, .int .u32 rc] 115)) w2 := (Gr.new _ _).trans hg
  have hc0 := hg1.keeps (p := ⟨w.heap.size, 0, none⟩) (v := .int .u32 m) (by simp [go_sem])
  have hc1 := hg1.keeps (p := ⟨w.heap.size, 1, none⟩) (v := .slice bd lb cb) (by simp [go_sem])
  have hc2 := hg1.keeps (p := ⟨w.heap.size, 2, none⟩) (v := .int .u32 rc) (by simp [go_sem])
  have HR := Lib.hid hr
  have HREM := Lib.hid hrem
  have HF := Lib.hid hf
  have HG := Lib.hid ((Gr.new w _).trans hg1)
  have HC := Lib.hid (And.intro hc0 (And.intro hc1 hc2))
  clear hr hrem hf hg hg1 hc0 hc1 hc2
  go_wp2_with fail
  go_loopw [2, 7, 8] (fun s7 s8 s9 wr => ∃ E sq res xs ns cs xr nr cr, s7 = .int .u64 (E : Nat) ∧ s8 = .slice xs ns cs ∧ s9 = .slice xr nr cr ∧ E ≤ 18446744073709551615 ∧ HasP wr (.slice xs ns cs) sq ∧ HasP wr (.slice xr nr cr) res ∧ sq.length ≤ 1000 ∧ Op.Nf m res ∧ res.length < b.length ∧ Op.PwI m b a N res sq E ∧ (∀ p, xr = some p → w.heap.size ≤ p.block) ∧ wr.cell? ⟨w.heap.size, 0, none⟩ = some (.int .u32 m) ∧ wr.cell? ⟨w.heap.size, 1, none⟩ = some (.slice bd lb cb) ∧ wr.cell? ⟨w.heap.size, 2, none⟩ = some (.int .u32 rc) ∧ Gr w wr) (fun s _ _ _ => (intOf s).toNat)
  case atStart => exact ⟨N, a, r, ua, la, uc, x, n, c, rfl, rfl, rfl, hN, HU.out.later HG.out, HR.out, HLA.out, HREM.out.1, HREM.out.2.1, Op.PwI.start HREM.out.2.2 (Op.MC.refl m b a), (fun p hp => by have := HF.out p hp; simp at this; omega), HC.out.1, HC.out.2.1, HC.out.2.2, HG.out⟩
  case round =>
    obtain ⟨E, sq, res, xs, ns, cs, xr, nr, cr, rfl, rfl, rfl, hE, hsq, hres, hls, hnf, hlr, hpw, hfr, hc0, hc1, hc2, hgw⟩ := hrel
    have HSQ := Lib.hid hsq
    have HRES := Lib.hid hres
    have HLS := Lib.hid hls
    have HNFR := Lib.hid hnf
    have HLR := Lib.hid hlr
    have HLR2 := Lib.hid (show res.length ≤ 1000 from by have := HLB.out; omega)
    have HPW := Lib.hid hpw
    have HFR := Lib.hid hfr
    have HGW := Lib.hid hgw
    have HC0 := Lib.hid hc0
    have HC1 := Lib.hid hc1
    have HC2 := Lib.hid hc2
    clear hsq hres hls hnf hlr hpw hfr hgw
    by_cases he : 0 < E
    · by_cases ho : E % 2 = 1
      · have hand : (bits .and .u64 (E : Int) 1) = 1 := by rw [and_one_u64 _ (by omega) (by omega)]; omega
        have HO := Lib.hid ho
        clear ho
        go_wp2_with fail
        have HDR3 := Lib.hid (show Gr wr wr.drew from (Gr.refl _).drewN 1)
        have HPA3 := Lib.hid (HRES.out.later HDR3.out)
        have HPB3 := Lib.hid (HSQ.out.later HDR3.out)
        have HNF3 := Lib.hid (show Op.Nf m (Op.nf m (Op.mul res sq)) from Op.nf_nf (by have := HM2.out; omega) _)
        have HLN3 := Lib.hid (show (Op.nf m (Op.mul res sq)).length ≤ 100000 from by
          have h1 := Op.nf_len m (Op.mul res sq)
          have h2 := Op.mul_len res sq
          have h3 := HLR2.out
          have h4 := HLS.out
          omega)
        have HLA3 := Lib.hid (show (res).length ≤ 100000 from by have := HLR2.out; omega)
        have HLB3 := Lib.hid (show (sq).length ≤ 100000 from by have := HLS.out; omega)
        go_wp2_with fail
        go_region_held3 (fun wz => wz.cell? ⟨w.heap.size, 0, none⟩ = some (.int .u32 m) ∧ wz.cell? ⟨w.heap.size, 1, none⟩ = some (.slice bd lb cb) ∧ wz.cell? ⟨w.heap.size, 2, none⟩ = some (.int .u32 rc)) (go_keep)
          (first
            | (go_at_call 109; refine (product_any m res sq _ _ _ HMB.out HPA3.out HPB3.out HLA3.out HLB3.out).mono ?_; rintro e w3 ⟨xp, np, cp, rfl, hp, hpf, hpg⟩; have HP3 := Lib.hid hp; have HG3 := Lib.hid (HDR3.out.trans hpg); have HV3 := Lib.hid (HV.out.later (HGW.out.trans HG3.out)); have hc0 := HG3.out.keeps HC0.out; have hc1 := HG3.out.keeps HC1.out; have hc2 := HG3.out.keeps HC2.out; clear hp hpf hpg)
            | (go_at_call 115; refine (rest_any m rc (Op.nf m (Op.mul res sq)) b _ bd lb cb _ HD.out HNF3.out HP3.out HV3.out HLN3.out).mono ?_; rintro e w3' ⟨x3, n3, c3, r3, rfl, hr, hrem, hf, hg⟩; have HR3 := Lib.hid hr; have HREM3 := Lib.hid (show Op.MC m b (Op.mul res sq) r3 ∧ Op.Nf m r3 ∧ r3.length < b.length from ⟨(Op.MC.of (Op.nf_cg m _).symm).trans hrem.2.2, hrem.1, hrem.2.1⟩); have HF3 := Lib.hid (show ∀ p, x3 = some p → wr.heap.size ≤ p.block from fun p hp => Nat.le_trans HG3.out.size (hf p hp)); have HGG3 := Lib.hid (HG3.out.trans hg); have hc0 := hg.keeps hc0; have hc1 := hg.keeps hc1; have hc2 := hg.keeps hc2; clear hr hrem hf hg))
        have HSQ2 := Lib.hid (HSQ.out.later HGG3.out)
        have HGW2 := Lib.hid (HGW.out.trans HGG3.out)
        have HD0 := Lib.hid hc0
        have HD1 := Lib.hid hc1
        have HD2 := Lib.hid hc2
        have HDR4 := Lib.hid (show Gr w3' w3'.drew from (Gr.refl _).drewN 1)
        have HPA4 := Lib.hid (HSQ2.out.later HDR4.out)
        have HPB4 := Lib.hid (HSQ2.out.later HDR4.out)
        have HNF4 := Lib.hid (show Op.Nf m (Op.nf m (Op.mul sq sq)) from Op.nf_nf (by have := HM2.out; omega) _)
        have HLN4 := Lib.hid (show (Op.nf m (Op.mul sq sq)).length ≤ 100000 from by
          have h1 := Op.nf_len m (Op.mul sq sq)
          have h2 := Op.mul_len sq sq
          have h3 := HLS.out
          have h4 := HLS.out
          omega)
        have HLA4 := Lib.hid (show (sq).length ≤ 100000 from by have := HLS.out; omega)
        have HLB4 := Lib.hid (show (sq).length ≤ 100000 from by have := HLS.out; omega)
        go_wp2_with fail
        go_region_held3 (fun wz => wz.cell? ⟨w.heap.size, 0, none⟩ = some (.int .u32 m) ∧ wz.cell? ⟨w.heap.size, 1, none⟩ = some (.slice bd lb cb) ∧ wz.cell? ⟨w.heap.size, 2, none⟩ = some (.int .u32 rc)) (go_keep)
          (first
            | (go_at_call 109; refine (product_any m sq sq _ _ _ HMB.out HPA4.out HPB4.out HLA4.out HLB4.out).mono ?_; rintro e w4 ⟨xp, np, cp, rfl, hp, hpf, hpg⟩; have HP4 := Lib.hid hp; have HG4 := Lib.hid (HDR4.out.trans hpg); have HV4 := Lib.hid (HV.out.later (HGW2.out.trans HG4.out)); have hc0 := HG4.out.keeps HD0.out; have hc1 := HG4.out.keeps HD1.out; have hc2 := HG4.out.keeps HD2.out; clear hp hpf hpg)
            | (go_at_call 115; refine (rest_any m rc (Op.nf m (Op.mul sq sq)) b _ bd lb cb _ HD.out HNF4.out HP4.out HV4.out HLN4.out).mono ?_; rintro e w4' ⟨x4, n4, c4, r4, rfl, hr, hrem, hf, hg⟩; have HR4 := Lib.hid hr; have HREM4 := Lib.hid (show Op.MC m b (Op.mul sq sq) r4 ∧ Op.Nf m r4 ∧ r4.length < b.length from ⟨(Op.MC.of (Op.nf_cg m _).symm).trans hrem.2.2, hrem.1, hrem.2.1⟩); have HF4 := Lib.hid (show ∀ p, x4 = some p → w3'.heap.size ≤ p.block from fun p hp => Nat.le_trans HG4.out.size (hf p hp)); have HGG4 := Lib.hid (HG4.out.trans hg); have hc0 := hg.keeps hc0; have hc1 := hg.keeps hc1; have hc2 := hg.keeps hc2; clear hr hrem hf hg))
        have HRR := Lib.hid (HR3.out.later HGG4.out)
        have HPW4 := Lib.hid (show Op.PwI m b a N r3 r4 (E / 2) from Op.PwI.odd (by have := HO.out; omega) HREM3.out.1 HREM4.out.1 HPW.out)
        have HLR4 := Lib.hid (show r4.length ≤ 1000 from by have := HREM4.out.2.2; have := HLB.out; omega)
        go_wp2_with fail
        go_roundw
        case rel => exact ⟨E / 2, r4, r3, _, _, _, _, _, _, by go_num, rfl, rfl, by omega, HR4.out, HRR.out, HLR4.out, HREM3.out.2.1, HREM3.out.2.2, HPW4.out, (fun p hp => Nat.le_trans HGW.out.size (HF3.out p hp)), hc0, hc1, hc2, HGW2.out.trans HGG4.out⟩
        case measure => simp [intOf]; omega
      · have hand : (bits .and .u64 (E : Int) 1) = 0 := by rw [and_one_u64 _ (by omega) (by omega)]; omega
        have HO := Lib.hid ho
        clear ho
        have HDR4 := Lib.hid (show Gr wr wr.drew from (Gr.refl _).drewN 1)
        have HPA4 := Lib.hid (HSQ.out.later HDR4.out)
        have HPB4 := Lib.hid (HSQ.out.later HDR4.out)
        have HNF4 := Lib.hid (show Op.Nf m (Op.nf m (Op.mul sq sq)) from Op.nf_nf (by have := HM2.out; omega) _)
        have HLN4 := Lib.hid (show (Op.nf m (Op.mul sq sq)).length ≤ 100000 from by
          have h1 := Op.nf_len m (Op.mul sq sq)
          have h2 := Op.mul_len sq sq
          have h3 := HLS.out
          have h4 := HLS.out
          omega)
        have HLA4 := Lib.hid (show (sq).length ≤ 100000 from by have := HLS.out; omega)
        have HLB4 := Lib.hid (show (sq).length ≤ 100000 from by have := HLS.out; omega)
        go_wp2_with fail
        go_region_held3 (fun wz => wz.cell? ⟨w.heap.size, 0, none⟩ = some (.int .u32 m) ∧ wz.cell? ⟨w.heap.size, 1, none⟩ = some (.slice bd lb cb) ∧ wz.cell? ⟨w.heap.size, 2, none⟩ = some (.int .u32 rc)) (go_keep)
          (first
            | (go_at_call 109; refine (product_any m sq sq _ _ _ HMB.out HPA4.out HPB4.out HLA4.out HLB4.out).mono ?_; rintro e w4 ⟨xp, np, cp, rfl, hp, hpf, hpg⟩; have HP4 := Lib.hid hp; have HG4 := Lib.hid (HDR4.out.trans hpg); have HV4 := Lib.hid (HV.out.later (HGW.out.trans HG4.out)); have hc0 := HG4.out.keeps HC0.out; have hc1 := HG4.out.keeps HC1.out; have hc2 := HG4.out.keeps HC2.out; clear hp hpf hpg)
            | (go_at_call 115; refine (rest_any m rc (Op.nf m (Op.mul sq sq)) b _ bd lb cb _ HD.out HNF4.out HP4.out HV4.out HLN4.out).mono ?_; rintro e w4' ⟨x4, n4, c4, r4, rfl, hr, hrem, hf, hg⟩; have HR4 := Lib.hid hr; have HREM4 := Lib.hid (show Op.MC m b (Op.mul sq sq) r4 ∧ Op.Nf m r4 ∧ r4.length < b.length from ⟨(Op.MC.of (Op.nf_cg m _).symm).trans hrem.2.2, hrem.1, hrem.2.1⟩); have HF4 := Lib.hid (show ∀ p, x4 = some p → wr.heap.size ≤ p.block from fun p hp => Nat.le_trans HG4.out.size (hf p hp)); have HGG4 := Lib.hid (HG4.out.trans hg); have hc0 := hg.keeps hc0; have hc1 := hg.keeps hc1; have hc2 := hg.keeps hc2; clear hr hrem hf hg))
        have HRR := Lib.hid (HRES.out.later HGG4.out)
        have HPW4 := Lib.hid (show Op.PwI m b a N res r4 (E / 2) from Op.PwI.even (by have := HO.out; omega) HREM4.out.1 HPW.out)
        have HLR4 := Lib.hid (show r4.length ≤ 1000 from by have := HREM4.out.2.2; have := HLB.out; omega)
        go_wp2_with fail
        go_roundw
        case rel => exact ⟨E / 2, r4, res, _, _, _, _, _, _, by go_num, rfl, rfl, by omega, HR4.out, HRR.out, HLR4.out, HNFR.out, HLR.out, HPW4.out, HFR.out, hc0, hc1, hc2, HGW.out.trans HGG4.out⟩
        case measure => simp [intOf]; omega
    · obtain rfl : E = 0 := by omega
      go_wp2_with fail
      go_ret
      exact ⟨_, _, _, res, rfl, HRES.out, ⟨HNFR.out, HLR.out, HPW.out.done⟩, HFR.out, HGW.out⟩
-- END LOOP
end Go.Proofs.Ytplfeeaocjgliaa
/- common: the greatest common divisor. -/
namespace Go.Proofs.Ytplfeeaocjgliaa
open Go.RowKit
set_option linter.unusedVariables false

/-- The greatest common divisor is returned, as new memory. -/
def ComP (m : Int) (a b : List Int) (w : World) (e : Ending) (w' : World) : Prop :=
  ∃ x n c g, e = .returned (.slice x n c) ∧ HasP w' (.slice x n c) g ∧ Op.Gd m a b g ∧ Op.Nf m g ∧ (∀ p, x = some p → w.heap.size ≤ p.block) ∧ Gr w w'

set_option maxRecDepth 100000 in
set_option maxHeartbeats 2000000 in
theorem common_any (m : Int) (a b : List Int) (u v : Value) (w : World) (hm : 2 ≤ m ∧ m ≤ 2147483647) (hF : Op.Fld m) (ha : Op.Nf m a) (hb : Op.Nf m b) (hu : HasP w u a) (hv : HasP w v b) (hla : a.length ≤ 1000) (hlb : b.length ≤ 1000) :
    Calls Try.prog 93 #[.int .u32 m, u, v] w (ComP m a b w) := by
  have HM := Lib.hid hm
  have HF := Lib.hid hF
  have HA := Lib.hid ha
  have HB := Lib.hid hb
  have HLA := Lib.hid hla
  have HLB := Lib.hid hlb
  have HU := Lib.hid hu
  have HV := Lib.hid hv
  obtain ⟨-, ua, uc, rfl, -, -, -⟩ := hu
  obtain ⟨-, va, vc, rfl, -, -, -⟩ := hv
  obtain ⟨la, hla'⟩ : ∃ la, la = a.length := ⟨_, rfl⟩
  obtain ⟨lb, hlb'⟩ : ∃ lb, lb = b.length := ⟨_, rfl⟩
  rw [← hla'] at HU ⊢
  rw [← hlb'] at HV ⊢
  have HMB := Lib.hid (show 1 ≤ m ∧ m ≤ 4294967295 from by omega)
  have HM0 := Lib.hid (show 0 < m from by omega)
  clear hm hF ha hb hla hlb hla' hlb'
  go_enter Try.func93, Try.ntmps93
  go_wp2_with fail
  go_loopw [1, 2] (fun s t wr => ∃ x y xa xn xc ya yn yc, s = .slice xa xn xc ∧ t = .slice ya yn yc ∧ HasP wr (.slice xa xn xc) x ∧ HasP wr (.slice ya yn yc) y ∧ Op.Nf m x ∧ Op.Nf m y ∧ x.length ≤ 1000 ∧ y.length ≤ 1000 ∧ (∀ g, Op.Eu m x y g → Op.Eu m a b g) ∧ Gr w wr) (fun _ t _ => match t with | .slice _ n _ => n | _ => 0)
  case atStart => exact ⟨a, b, _, _, _, _, _, _, rfl, rfl, HU.out, HV.out, HA.out, HB.out, HLA.out, HLB.out, fun g h => h, Gr.refl w⟩
  case round =>
    obtain ⟨x, y, xa, xn, xc, ya, yn, yc, rfl, rfl, hx, hy, hnx, hny, hlx, hly, heu, hg⟩ := hrel
    have hxl := hx.len
    have hyl := hy.len
    have HX := Lib.hid hx
    have HY := Lib.hid hy
    have HNX := Lib.hid hnx
    have HNY := Lib.hid hny
    have HLX := Lib.hid hlx
    have HLY := Lib.hid hly
    have HEU := Lib.hid heu
    have HG := Lib.hid hg
    have HXL := Lib.hid hxl.1
    have HYL := Lib.hid hyl.1
    clear hx hy hnx hny hlx hly heu hg hxl hyl
    rcases Nat.eq_zero_or_pos yn with h0 | h0
    · subst h0
      have hy0 : y = [] := List.eq_nil_of_length_eq_zero HYL.out.symm
      have HEN := Lib.hid (show Op.Eu m a b x from HEU.out x (by rw [hy0]; exact Op.Eu.done x))
      clear hy0
      rcases Nat.eq_zero_or_pos xn with h1 | h1
      · subst h1
        have hx0 : x = [] := List.eq_nil_of_length_eq_zero HXL.out.symm
        have HX0 := Lib.hid hx0
        clear hx0
        go_wp2_with fail
        go_ret
        exact ⟨_, _, _, [], rfl, HasP.nil _, ⟨x, HEN.out, .inl ⟨HX0.out, rfl⟩⟩, Op.Nf.nil m, (fun p hp => by cases hp), HG.out⟩
      · have hxne : x ≠ [] := by intro e; have := HXL.out; rw [e] at this; simp at this; omega
        have HXNE := Lib.hid hxne
        have HUN := Lib.hid (Op.ld_unit HF.out HM0.out HNX.out hxne)
        obtain ⟨g, o, rfl, hcell⟩ := HX.out.cells0 h1
        rw [HXL.out, Op.ld_cf rfl] at hcell
        have hrange := Op.rs_cf HM0.out HNX.out.1 (x.length - 1)
        obtain ⟨c, hc⟩ : ∃ c, c = Op.ld x := ⟨_, rfl⟩
        rw [← hc] at hcell HUN
        rw [← HXL.out] at hcell
        have HCR := Lib.hid (show 0 ≤ c ∧ c < m from by rw [hc]; exact hrange)
        have HCE := Lib.hid hc
        have e1 : ((xn - 1 : Nat) : Int) = (xn : Int) - 1 := by omega
        have e2 : ((xn : Int) - 1).toNat = xn - 1 := by omega
        have hp0 : (0 : Int) < (xn : Int) := by omega
        have hb0 : ((xn : Int) == 0) = false := by simp; omega
        have hxb : xn ≤ 1000 := by have := HLX.out; have := HXL.out; omega
        clear hxne hrange hc
        go_wp2_with fail
        refine (inv_ok m c _ HM.out HCR.out HUN.out).mono ?_
        rintro e w1 ⟨iv, rfl, hr0, hr1, hr2, hg1⟩
        have HR2 := Lib.hid hr2
        have HG1 := Lib.hid hg1
        clear hr2 hg1
        go_wp2_with fail
        refine (psum_any m iv [] x _ _ _ HMB.out (by have := HMB.out; omega) (by intro y hy; cases hy) (HasP.nil _) (HX.out.later HG1.out) (by simp) (by have := HLX.out; omega)).mono ?_
        rintro e w2 ⟨za, zn, zc, rfl, hz, hzf, hzg⟩
        have HZ := Lib.hid hz
        have HZF := Lib.hid hzf
        have HZG := Lib.hid hzg
        clear hz hzf hzg
        go_wp2_with fail
        go_ret
        have e3 : Op.nf m (Op.add [] (Op.sc iv x)) = Op.nf m (Op.sc iv x) := rfl
        exact ⟨_, _, _, Op.nf m (Op.sc iv x), rfl, HZ.out, ⟨x, HEN.out, .inr ⟨HXNE.out, iv, by rw [← HCE.out]; exact HR2.out, rfl⟩⟩, Op.nf_nf HM0.out _, (fun p hp => Nat.le_trans (HG.out.trans HG1.out).size (HZF.out p hp)), (HG.out.trans HG1.out).trans HZG.out⟩
    · have hyne : y ≠ [] := by intro e; have := HYL.out; rw [e] at this; simp at this; omega
      have HYNE := Lib.hid hyne
      have HUN := Lib.hid (Op.ld_unit HF.out HM0.out HNY.out hyne)
      have hp0 : (0 : Int) < (yn : Int) := by omega
      clear hyne
      go_wp2_with fail
      refine (divisor_ok m y _ _ HM.out HNY.out.1 HYNE.out HY.out HUN.out).mono ?_
      rintro e w1 ⟨rc, rfl, hr0, hr1, hr2, hg1⟩
      have HD := Lib.hid (show DvsOK m rc y from ⟨HM.out, HNY.out.1, by rw [← HYL.out]; exact h0, ⟨hr0, hr1⟩, hr2⟩)
      have HG1 := Lib.hid hg1
      clear hr2 hg1
      go_wp2_with fail
      refine (divide_any m rc x y _ _ _ HD.out HNX.out (HX.out.later (HG1.out.alloc _)) (HY.out.later (HG1.out.alloc _)) (by have := HLX.out; omega)).mono ?_
      rintro e w2 ⟨x1, n1, c1, x2, n2, c2, q, r, rfl, hq, hr, hdv, hf1, hf2, hg2⟩
      have HR := Lib.hid hr
      have HDV := Lib.hid hdv
      have HG2 := Lib.hid ((HG1.out.alloc _).trans hg2)
      have HY2 := Lib.hid (HY.out.later HG2.out)
      have hrl := hr.len
      have HRL := Lib.hid hrl.1
      have HLR := Lib.hid (show r.length ≤ 1000 from by have := HLY.out; have := hdv.2.2.1; omega)
      have HLT := Lib.hid (show n2 < yn from by have := HYL.out; have := hdv.2.2.1; have := hrl.1; omega)
      clear hq hr hdv hf1 hf2 hg2 hrl
      go_wp2_with fail
      go_roundw
      case rel => exact ⟨y, r, _, _, _, _, _, _, rfl, rfl, HY2.out, HR.out, HNY.out, HDV.out.2.1, HLY.out, HLR.out, (fun g h => HEU.out g (Op.Eu.step HYNE.out HDV.out h)), HG.out.trans HG2.out⟩
      case measure => exact HLT.out
end Go.Proofs.Ytplfeeaocjgliaa
/- check, Check. -/
namespace Go.Proofs.Ytplfeeaocjgliaa
open Go.RowKit
set_option linter.unusedVariables false

/-- The error of a polynomial. -/
def chk1 (m : Int) (a : List Int) : Int := if 256 < a.length then 3 else if lowB m a = true ∧ (Op.tz a).length = a.length then 0 else 2
/-- The first error of polynomials. -/
def chk (m : Int) : List (List Int) → Int
  | [] => 0
  | a :: l => if chk1 m a = 0 then chk m l else chk1 m a
/-- The modulus is one. -/
def okM (m : Int) : Prop := 2 ≤ m ∧ m ≤ 2147483647
instance (m : Int) : Decidable (okM m) := by unfold okM; infer_instance
def checkE (m : Int) (l : List (List Int)) : Int := if okM m then chk m l else 2
theorem chk1_iff {m : Int} {a : List Int} (ha : U32 a) : chk1 m a = 0 ↔ a.length ≤ 256 ∧ Op.Nf m a := by
  unfold chk1
  by_cases h : 256 < a.length
  · rw [if_pos h]; constructor
    · intro h; cases h
    · intro h'; omega
  · rw [if_neg h]
    have e : (Op.tz a).length = a.length ↔ Op.tz a = a := by
      constructor
      · intro h; rw [tz_take a, h, List.take_length]
      · intro h; rw [h]
    constructor
    · intro h'
      split at h'
      · rename_i hh
        refine ⟨by omega, ?_, e.1 hh.2⟩
        exact Op.rs_of (fun j hj => ⟨(ha.at_ j).1, lowB_true.1 hh.1 j hj⟩)
      · cases h'
    · rintro ⟨_, h1, h2⟩
      rw [if_pos ⟨lowB_true.2 (fun i hi => (h1 _ (Op.cf_mem hi)).2), e.2 h2⟩]
theorem chk_drop {m : Int} {l : List (List Int)} {k : Nat} (hk : k < l.length) : chk m (l.drop k) = if chk1 m (l[k]'hk) = 0 then chk m (l.drop (k + 1)) else chk1 m (l[k]'hk) := by
  rw [List.drop_eq_getElem_cons hk]; rfl
theorem checkE_one {m : Int} {a : List Int} (ha : U32 a) : checkE m [a] = 0 ↔ okM m ∧ a.length ≤ 256 ∧ Op.Nf m a := by
  unfold checkE
  by_cases h : okM m
  · rw [if_pos h]
    have e : chk m [a] = chk1 m a := by unfold chk; split <;> simp_all [chk]
    rw [e, chk1_iff ha]; simp [h]
  · rw [if_neg h]; simp [h]
theorem checkE_two {m : Int} {a b : List Int} (ha : U32 a) (hb : U32 b) : checkE m [a, b] = 0 ↔ okM m ∧ (a.length ≤ 256 ∧ Op.Nf m a) ∧ (b.length ≤ 256 ∧ Op.Nf m b) := by
  unfold checkE
  by_cases h : okM m
  · rw [if_pos h]
    have e : chk m [a, b] = if chk1 m a = 0 then chk1 m b else chk1 m a := by
      show (if chk1 m a = 0 then chk m [b] else chk1 m a) = _
      have e : chk m [b] = chk1 m b := by unfold chk; split <;> simp_all [chk]
      rw [e]
    rw [e, ← chk1_iff ha, ← chk1_iff hb]
    by_cases h1 : chk1 m a = 0
    · rw [if_pos h1]; simp [h, h1]
    · rw [if_neg h1]; simp [h, h1]
  · rw [if_neg h]; simp [h]

/-- A slice of slices. -/
def HasLL (W : World) (g n : Nat) (vs : List Value) (ls : List (List Int)) : Prop :=
  n = ls.length ∧ vs.length = ls.length ∧ ∀ i (hi : i < ls.length), ∃ x k c, W.cell? ⟨g, i, none⟩ = some (.slice x k c) ∧ HasP W (.slice x k c) ls[i]

set_option maxRecDepth 100000 in
set_option maxHeartbeats 2000000 in
theorem check_any (m : Int) (g n : Nat) (vs : List Value) (ls : List (List Int)) (w : World) (h : HasLL w g n vs ls) (hn : n ≤ 100) (hl : ∀ a ∈ ls, a.length ≤ 9223372036854775807) :
    Calls Try.prog 89 #[.int .u32 m, .slice (some ⟨g, 0, none⟩) n n] w (fun e w' => e = .returned (.int .i64 (checkE m ls)) ∧ w = w') := by
  have H := Lib.hid h
  have HLL := Lib.hid hl
  have HN := Lib.hid h.1
  clear h hl
  by_cases hm : okM m
  · have HM := Lib.hid hm
    have HE := Lib.hid (show checkE m ls = chk m ls from if_pos hm)
    clear hm
    go_enter Try.func89, Try.ntmps89
    go_wp2_with (go_at_call 104; refine (valid_yes m _ HM.out).mono ?_; rintro e w' ⟨rfl, rfl⟩)
    go_loop [12] (fun t => ∃ k : Nat, t = .int .i64 k ∧ k ≤ n ∧ chk m ls = chk m (ls.drop k)) (fun t => n - (intOf t).toNat)
    case atStart => exact ⟨0, rfl, by omega, rfl⟩
    case round =>
      obtain ⟨k, rfl, hk, hc⟩ := hrel
      have HC := Lib.hid hc
      clear hc
      by_cases hlt : k < n
      · have hkl : k < ls.length := by rw [← HN.out]; exact hlt
        obtain ⟨x, j, c, hcell, hp⟩ := H.out.2.2 k hkl
        have hjl := hp.len
        have hjb : j ≤ 9223372036854775807 := by have := HLL.out _ (List.getElem_mem hkl); omega
        have HD := Lib.hid (chk_drop (m := m) hkl)
        obtain ⟨a, ha⟩ : ∃ a, a = ls[k] := ⟨_, rfl⟩
        rw [← ha] at hp hjl HD
        have HP := Lib.hid hp
        have HJ := Lib.hid hjl.1
        have hlt' : (k : Int) < (n : Int) := by omega
        clear hp hjl ha hkl
        by_cases h256 : (256 : Int) < (j : Int)
        · have HR := Lib.hid (show chk1 m a = 3 from if_pos (by rw [← HJ.out]; omega))
          go_wp2_with fail
          go_ret
          exact ⟨by rw [HE.out, HC.out, HD.out, HR.out]; rfl, rfl⟩
        · have HR := Lib.hid (show chk1 m a = if lowB m a = true ∧ (Op.tz a).length = a.length then 0 else 2 from if_neg (by rw [← HJ.out]; omega))
          have HTL := Lib.hid (Op.tz_len a)
          cases hlow : lowB m a with
          | false =>
            have HR2 := Lib.hid (show chk1 m a = 2 from by rw [HR.out, if_neg (by simp [hlow])])
            have HLOW := Lib.hid hlow
            clear hlow
            go_wp2_with (go_at_call 105; refine (has_any m a _ _ HP.out).mono ?_; rintro e w' ⟨rfl, rfl⟩; rw [HLOW.out])
            go_ret
            exact ⟨by rw [HE.out, HC.out, HD.out, HR2.out]; rfl, rfl⟩
          | true =>
            have HLOW := Lib.hid hlow
            clear hlow
            obtain ⟨i, hi⟩ : ∃ i, i = (Op.tz a).length := ⟨_, rfl⟩
            have hij : i ≤ j := by rw [hi, HJ.out]; exact HTL.out
            have HI := Lib.hid hi
            clear hi
            by_cases hcut : (i : Int) < (j : Int)
            · have HR2 := Lib.hid (show chk1 m a = 2 from by rw [HR.out, if_neg (fun h => by have := h.2; rw [← HI.out, ← HJ.out] at this; omega)])
              go_wp2_with (first | (go_at_call 105; refine (has_any m a _ _ HP.out).mono ?_; rintro e w' ⟨rfl, rfl⟩; rw [HLOW.out]) | (go_at_call 106; refine (trimmed_any a _ _ _ _ HP.out).mono ?_; rintro e w' ⟨rfl, rfl⟩; rw [← HI.out]))
              go_ret
              exact ⟨by rw [HE.out, HC.out, HD.out, HR2.out]; rfl, rfl⟩
            · have HR2 := Lib.hid (show chk1 m a = 0 from by rw [HR.out, if_pos ⟨HLOW.out, by rw [← HI.out, ← HJ.out]; omega⟩])
              go_wp2_with (first | (go_at_call 105; refine (has_any m a _ _ HP.out).mono ?_; rintro e w' ⟨rfl, rfl⟩; rw [HLOW.out]) | (go_at_call 106; refine (trimmed_any a _ _ _ _ HP.out).mono ?_; rintro e w' ⟨rfl, rfl⟩; rw [← HI.out]))
              go_round
              case rel => exact ⟨k + 1, by go_num, by omega, by rw [HC.out, HD.out, if_pos HR2.out]⟩
              case measure => simp [intOf]; omega
      · have HF := Lib.hid (show chk m ls = 0 from by rw [HC.out, List.drop_of_length_le (by rw [← HN.out]; omega)]; rfl)
        go_wp2_with fail
        go_ret
        exact ⟨by rw [HE.out, HF.out]; rfl, rfl⟩
  · have HM := Lib.hid hm
    have HE := Lib.hid (show checkE m ls = 2 from if_neg hm)
    clear hm
    go_enter Try.func89, Try.ntmps89
    go_wp2_with (go_at_call 104; refine (valid_no m _ HM.out).mono ?_; rintro e w' ⟨rfl, rfl⟩)
    go_ret
    exact ⟨by rw [HE.out]; rfl, rfl⟩
end Go.Proofs.Ytplfeeaocjgliaa
/- Check, Add, Sub, Mul. -/
namespace Go.Proofs.Ytplfeeaocjgliaa
open Go.RowKit
set_option linter.unusedVariables false

/-- A polynomial and an error number are returned. -/
def PolE (L : List Int) (E : Int) (w : World) (e : Ending) (w' : World) : Prop :=
  ∃ x n c, e = .returned (.tuple #[.slice x n c, .int .i64 E]) ∧ HasP w' (.slice x n c) L ∧ (∀ p, x = some p → w.heap.size ≤ p.block) ∧ Gr w w'
theorem ll_two {w : World} {xa xb : Option Addr} {na ca nb cb : Nat} {a b : List Int} (ha : HasP w (.slice xa na ca) a) (hb : HasP w (.slice xb nb cb) b) (g : Nat) (hg : g = w.heap.size) : HasLL (w.alloc (.cells #[.slice xa na ca, .slice xb nb cb] 31)) g 2 [.slice xa na ca, .slice xb nb cb] [a, b] := by
  subst hg
  refine ⟨rfl, rfl, fun i hi => ?_⟩
  have : i = 0 ∨ i = 1 := by simp at hi; omega
  rcases this with rfl | rfl
  · exact ⟨xa, na, ca, by simp [go_sem], ha.later (Gr.new w _)⟩
  · exact ⟨xb, nb, cb, by simp [go_sem], hb.later (Gr.new w _)⟩

def subL (m : Int) (a b : List Int) : List Int := if checkE m [a, b] = 0 then Op.nf m (Op.add a (Op.sc (-1) b)) else []
set_option maxRecDepth 100000 in
set_option maxHeartbeats 1000000 in
theorem pSub_any (m : Int) (a b : List Int) (u v : Value) (w : World) (hu : HasP w u a) (hv : HasP w v b) (hla : a.length ≤ 1000) (hlb : b.length ≤ 1000) :
    Calls Try.prog 66 #[.int .u32 m, u, v] w (PolE (subL m a b) (checkE m [a, b]) w) := by
  obtain ⟨-, xa, ca, rfl, -, -, -⟩ := id hu
  obtain ⟨-, xb, cb, rfl, -, -, -⟩ := id hv
  obtain ⟨na, hna⟩ : ∃ na, na = a.length := ⟨_, rfl⟩
  obtain ⟨nb, hnb⟩ : ∃ nb, nb = b.length := ⟨_, rfl⟩
  rw [← hna] at hu ⊢
  rw [← hnb] at hv ⊢
  have HU := Lib.hid hu
  have HV := Lib.hid hv
  have HLA := Lib.hid hla
  have HLB := Lib.hid hlb
  have HLL := Lib.hid (show ∀ l ∈ [a, b], l.length ≤ 9223372036854775807 from fun l hl => by simp at hl; rcases hl with rfl | rfl <;> omega)
  have HIFF := Lib.hid (checkE_two (m := m) hu.1 hv.1)
  obtain ⟨E, hE⟩ : ∃ E, E = checkE m [a, b] := ⟨_, rfl⟩
  try rw [← hE]
  have HE := Lib.hid hE
  clear hu hv hla hlb hna hnb hE
  by_cases h0 : E = 0
  · subst h0
    have HOK := Lib.hid (HIFF.out.1 HE.out.symm)
    have H0 := Lib.hid (show (0 : Int) = 0 from rfl)
    have HMB := Lib.hid (show 1 ≤ m ∧ m ≤ 4294967295 from by have := HOK.out.1; unfold okM at this; omega)
    have hm0 : 2 ≤ m := by have := HOK.out.1; unfold okM at this; omega
    have hm1 : m ≤ 2147483647 := by have := HOK.out.1; unfold okM at this; omega
    go_enter Try.func66, Try.ntmps66
    go_wp2_with fail
    refine (check_any m w.heap.size 2 _ [a, b] _ (ll_two HU.out HV.out _ rfl) (by omega) HLL.out).mono ?_
    rintro e w1 ⟨rfl, rfl⟩
    rw [← HE.out]
    go_wp2_with fail
    refine (psum_any m (m - 1) a b _ _ _ HMB.out (by have := HMB.out; omega) HOK.out.2.1.2.1 (HU.out.later (Gr.new w _)) (HV.out.later (Gr.new w _)) (by have := HLA.out; omega) (by have := HLB.out; omega)).mono ?_
    rintro e w2 ⟨x, n, c, rfl, hx, hfr, hg⟩
    have HX := Lib.hid hx
    have HFR := Lib.hid hfr
    have HG := Lib.hid ((Gr.new w _).trans hg)
    clear hx hfr hg
    go_wp2_with fail
    go_ret2
    exact ⟨_, _, _, rfl, by have h : subL m a b = Op.nf m (Op.add a (Op.sc (m - 1) b)) := (if_pos HE.out.symm).trans (Op.nf_iff (by have := HMB.out; omega) ((Op.Cg.refl m a).add (Op.Cg.scm b ⟨-1, by omega⟩))); rw [h]; exact HX.out, (fun p hp => by have := HFR.out p hp; rw [World.size_alloc] at this; omega), HG.out⟩
  · have hf : (E != 0) = true := by simp [h0]
    have HN := Lib.hid (show subL m a b = [] from if_neg (by rw [← HE.out]; exact h0))
    go_enter Try.func66, Try.ntmps66
    go_wp2_with fail
    refine (check_any m w.heap.size 2 _ [a, b] _ (ll_two HU.out HV.out _ rfl) (by omega) HLL.out).mono ?_
    rintro e w1 ⟨rfl, rfl⟩
    rw [← HE.out]
    go_wp2_with fail
    go_ret2
    exact ⟨_, _, _, rfl, by rw [HN.out]; exact HasP.nil _, (fun p hp => by cases hp), Gr.new w _⟩

def mulE (m : Int) (a b : List Int) : Int := if checkE m [a, b] = 0 then (if 257 < a.length + b.length then 3 else 0) else checkE m [a, b]
def mulL (m : Int) (a b : List Int) : List Int := if mulE m a b = 0 then Op.nf m (Op.mul a b) else []
set_option maxRecDepth 100000 in
set_option maxHeartbeats 1000000 in
theorem pMul_any (m : Int) (a b : List Int) (u v : Value) (w : World) (hu : HasP w u a) (hv : HasP w v b) (hla : a.length ≤ 1000) (hlb : b.length ≤ 1000) :
    Calls Try.prog 92 #[.int .u32 m, u, v] w (PolE (mulL m a b) (mulE m a b) w) := by
  obtain ⟨-, xa, ca, rfl, -, -, -⟩ := id hu
  obtain ⟨-, xb, cb, rfl, -, -, -⟩ := id hv
  obtain ⟨na, hna⟩ : ∃ na, na = a.length := ⟨_, rfl⟩
  obtain ⟨nb, hnb⟩ : ∃ nb, nb = b.length := ⟨_, rfl⟩
  rw [← hna] at hu ⊢
  rw [← hnb] at hv ⊢
  have HU := Lib.hid hu
  have HV := Lib.hid hv
  have HNA := Lib.hid hna
  have HNB := Lib.hid hnb
  have HLA := Lib.hid hla
  have HLB := Lib.hid hlb
  have HLL := Lib.hid (show ∀ l ∈ [a, b], l.length ≤ 9223372036854775807 from fun l hl => by simp at hl; rcases hl with rfl | rfl <;> omega)
  have HIFF := Lib.hid (checkE_two (m := m) hu.1 hv.1)
  obtain ⟨E, hE⟩ : ∃ E, E = checkE m [a, b] := ⟨_, rfl⟩
  try rw [← hE]
  have HE := Lib.hid hE
  clear hu hv hla hlb hna hnb hE
  by_cases h0 : E = 0
  · subst h0
    have HOK := Lib.hid (HIFF.out.1 HE.out.symm)
    have H0 := Lib.hid (show (0 : Int) = 0 from rfl)
    have HMB := Lib.hid (show 1 ≤ m ∧ m ≤ 4294967295 from by have := HOK.out.1; unfold okM at this; omega)
    by_cases hlong : (257 : Int) < (na : Int) + (nb : Int)
    case' neg =>
      have HME := Lib.hid (show mulE m a b = 0 from by unfold mulE; rw [← HE.out, if_pos H0.out]; exact if_neg (by have := HNA.out; have := HNB.out; omega))
      have HN := Lib.hid (show mulL m a b = Op.nf m (Op.mul a b) from if_pos HME.out)
    case' pos =>
      have HME := Lib.hid (show mulE m a b = 3 from by unfold mulE; rw [← HE.out, if_pos H0.out]; exact if_pos (by have := HNA.out; have := HNB.out; omega))
      have HN := Lib.hid (show mulL m a b = [] from if_neg (by rw [HME.out]; decide))
    all_goals
     rw [HME.out]
     have hba : na ≤ 1000 := by have := HLA.out; have := HNA.out; omega
     have hbb : nb ≤ 1000 := by have := HLB.out; have := HNB.out; omega
     go_enter Try.func92, Try.ntmps92
     go_wp2_with fail
     refine (check_any m w.heap.size 2 _ [a, b] _ (ll_two HU.out HV.out _ rfl) (by omega) HLL.out).mono ?_
     rintro e w1 ⟨rfl, rfl⟩
     rw [← HE.out]
    · go_wp2_with fail
      go_ret2
      exact ⟨_, _, _, rfl, by rw [HN.out]; exact HasP.nil _, (fun p hp => by cases hp), Gr.new w _⟩
    · go_wp2_with fail
      refine (product_any m a b _ _ _ HMB.out (HU.out.later (Gr.new w _)) (HV.out.later (Gr.new w _)) (by have := HLA.out; omega) (by have := HLB.out; omega)).mono ?_
      rintro e w2 ⟨x, n, c, rfl, hx, hfr, hg⟩
      have HX := Lib.hid hx
      have HFR := Lib.hid hfr
      have HG := Lib.hid ((Gr.new w _).trans hg)
      clear hx hfr hg
      go_wp2_with fail
      go_ret2
      exact ⟨_, _, _, rfl, by rw [HN.out]; exact HX.out, (fun p hp => by have := HFR.out p hp; rw [World.size_alloc] at this; omega), HG.out⟩
  · have hf : (E != 0) = true := by simp [h0]
    have HME := Lib.hid (show mulE m a b = E from by unfold mulE; rw [← HE.out]; exact if_neg h0)
    have HN := Lib.hid (show mulL m a b = [] from if_neg (by rw [HME.out]; exact h0))
    rw [HME.out]
    go_enter Try.func92, Try.ntmps92
    go_wp2_with fail
    refine (check_any m w.heap.size 2 _ [a, b] _ (ll_two HU.out HV.out _ rfl) (by omega) HLL.out).mono ?_
    rintro e w1 ⟨rfl, rfl⟩
    rw [← HE.out]
    go_wp2_with fail
    go_ret2
    exact ⟨_, _, _, rfl, by rw [HN.out]; exact HasP.nil _, (fun p hp => by cases hp), Gr.new w _⟩

end Go.Proofs.Ytplfeeaocjgliaa
/- DivMod, PowMod, Wrap, Eval. -/
namespace Go.Proofs.Ytplfeeaocjgliaa
open Go.RowKit
set_option linter.unusedVariables false

/-- The last element is a unit. -/
def divU (m : Int) (b : List Int) : Prop := b ≠ [] ∧ Op.Un m (Op.ld b)
/-- Quotient, rest and error of DivMod. -/
def DivR (m : Int) (a b q r : List Int) (E : Int) : Prop :=
  (E = checkE m [a, b] ∧ E ≠ 0 ∧ q = [] ∧ r = []) ∨ (checkE m [a, b] = 0 ∧ ¬ divU m b ∧ E = 7 ∧ q = [] ∧ r = []) ∨ (checkE m [a, b] = 0 ∧ divU m b ∧ E = 0 ∧ Op.Dv m a b q r)
theorem DivR.unique {m : Int} {a b q r q' r' : List Int} {E E' : Int} (hU : U32 a) (hU' : U32 b) (h : DivR m a b q r E) (k : DivR m a b q' r' E') : q = q' ∧ r = r' ∧ E = E' := by
  rcases h with ⟨h1, h2, h3, h4⟩ | ⟨h1, h2, h3, h4, h5⟩ | ⟨h1, h2, h3, h4⟩ <;> rcases k with ⟨k1, k2, k3, k4⟩ | ⟨k1, k2, k3, k4, k5⟩ | ⟨k1, k2, k3, k4⟩
  · exact ⟨h3.trans k3.symm, h4.trans k4.symm, h1.trans k1.symm⟩
  · omega
  · omega
  · omega
  · exact ⟨h4.trans k4.symm, h5.trans k5.symm, h3.trans k3.symm⟩
  · exact absurd k2 h2
  · omega
  · exact absurd h2 k2
  · have hm := ((checkE_two hU hU').1 h1).1
    unfold okM at hm
    have := Op.Dv.unique (by omega) h2.2 (Op.Cg.refl m a) h4 k4
    exact ⟨this.1, this.2, h3.trans k3.symm⟩
def DivE (m : Int) (a b : List Int) (w : World) (e : Ending) (w' : World) : Prop :=
  ∃ x1 n1 c1 x2 n2 c2 q r E, e = .returned (.tuple #[.slice x1 n1 c1, .slice x2 n2 c2, .int .i64 E]) ∧ HasP w' (.slice x1 n1 c1) q ∧ HasP w' (.slice x2 n2 c2) r ∧ DivR m a b q r E ∧
    (∀ p, x1 = some p → w.heap.size ≤ p.block) ∧ (∀ p, x2 = some p → w.heap.size ≤ p.block) ∧ Gr w w'

set_option maxRecDepth 100000 in
set_option maxHeartbeats 1000000 in
theorem pDivMod_any (m : Int) (a b : List Int) (u v : Value) (w : World) (hu : HasP w u a) (hv : HasP w v b) (hla : a.length ≤ 1000) (hlb : b.length ≤ 1000) :
    Calls Try.prog 69 #[.int .u32 m, u, v] w (DivE m a b w) := by
  obtain ⟨-, xa, ca, rfl, -, -, -⟩ := id hu
  obtain ⟨-, xb, cb, rfl, -, -, -⟩ := id hv
  obtain ⟨na, hna⟩ : ∃ na, na = a.length := ⟨_, rfl⟩
  obtain ⟨nb, hnb⟩ : ∃ nb, nb = b.length := ⟨_, rfl⟩
  rw [← hna] at hu ⊢
  rw [← hnb] at hv ⊢
  have HU := Lib.hid hu
  have HV := Lib.hid hv
  have HNB := Lib.hid hnb
  have HLA := Lib.hid hla
  have HLB := Lib.hid hlb
  have HLL := Lib.hid (show ∀ l ∈ [a, b], l.length ≤ 9223372036854775807 from fun l hl => by simp at hl; rcases hl with rfl | rfl <;> omega)
  have HIFF := Lib.hid (checkE_two (m := m) hu.1 hv.1)
  obtain ⟨E, hE⟩ : ∃ E, E = checkE m [a, b] := ⟨_, rfl⟩
  have HE := Lib.hid hE
  clear hu hv hla hlb hna hnb hE
  by_cases h0 : E = 0
  · subst h0
    have HOK := Lib.hid (HIFF.out.1 HE.out.symm)
    have HMB := Lib.hid (show 2 ≤ m ∧ m ≤ 2147483647 from HOK.out.1)
    by_cases hU : divU m b
    · have HDU := Lib.hid hU
      clear hU
      go_enter Try.func69, Try.ntmps69
      go_wp2_with fail
      refine (check_any m w.heap.size 2 _ [a, b] _ (ll_two HU.out HV.out _ rfl) (by omega) HLL.out).mono ?_
      rintro e w1 ⟨rfl, rfl⟩
      rw [← HE.out]
      go_wp2_with fail
      refine (divisor_ok m b _ _ HMB.out HOK.out.2.2.2.1 HDU.out.1 (HV.out.later (Gr.new w _)) HDU.out.2).mono ?_
      rintro e w1 ⟨rc, rfl, hr0, hr1, hr2, hg1⟩
      have HD := Lib.hid (show DvsOK m rc b from ⟨HMB.out, HOK.out.2.2.2.1, List.length_pos_iff.2 HDU.out.1, ⟨hr0, hr1⟩, hr2⟩)
      have HG1 := Lib.hid ((Gr.new w _).trans hg1)
      clear hr2 hg1
      go_wp2_with fail
      refine (divide_any m rc a b _ _ _ HD.out HOK.out.2.1.2 (HU.out.later (HG1.out.alloc _)) (HV.out.later (HG1.out.alloc _)) (by have := HLA.out; omega)).mono ?_
      rintro e w2 ⟨x1, n1, c1, x2, n2, c2, q, r, rfl, hq, hr, hdv, hf1, hf2, hg2⟩
      have H := Lib.hid (And.intro hq (And.intro hr (And.intro hdv (And.intro hf1 (And.intro hf2 hg2)))))
      clear hq hr hdv hf1 hf2 hg2
      go_wp2_with fail
      go_ret3
      obtain ⟨hq, hr, hdv, hf1, hf2, hg2⟩ := H.out
      have hs := (HG1.out.alloc (.cells #[.int .u32 m, .slice xb nb cb, .int .u32 rc] 115)).size
      exact ⟨_, _, _, _, _, _, q, r, 0, rfl, hq, hr, .inr (.inr ⟨HE.out.symm, HDU.out, rfl, hdv⟩), (fun p hp => Nat.le_trans hs (hf1 p hp)), (fun p hp => Nat.le_trans hs (hf2 p hp)), (HG1.out.alloc _).trans hg2⟩
    · have HDU := Lib.hid hU
      have HX := Lib.hid (fun (W : World) (hW : HasP W (.slice xb nb cb) b) => (show Calls Try.prog 94 #[.int .u32 m, .slice xb nb cb] W (DvsNo W) from by
        by_cases hb : b = []
        · exact divisor_empty m _ W (by rw [← hb]; exact hW)
        · exact divisor_none m b _ W HMB.out HOK.out.2.2.2.1 hb hW (fun h => HDU.out ⟨hb, h⟩)))
      clear hU
      go_enter Try.func69, Try.ntmps69
      go_wp2_with fail
      refine (check_any m w.heap.size 2 _ [a, b] _ (ll_two HU.out HV.out _ rfl) (by omega) HLL.out).mono ?_
      rintro e w1 ⟨rfl, rfl⟩
      rw [← HE.out]
      go_wp2_with fail
      refine (HX.out _ (HV.out.later (Gr.new w _))).mono ?_
      rintro e w1 ⟨p, ya, yn, yc, rfl, hg1⟩
      have HG1 := Lib.hid ((Gr.new w _).trans hg1)
      clear hg1
      go_wp2_with fail
      go_ret3
      exact ⟨_, _, _, _, _, _, [], [], 7, rfl, HasP.nil _, HasP.nil _, .inr (.inl ⟨HE.out.symm, HDU.out, rfl, rfl, rfl⟩), (fun p hp => by cases hp), (fun p hp => by cases hp), HG1.out.alloc _⟩
  · have hf : (E != 0) = true := by simp [h0]
    have H0 := Lib.hid h0
    go_enter Try.func69, Try.ntmps69
    go_wp2_with fail
    refine (check_any m w.heap.size 2 _ [a, b] _ (ll_two HU.out HV.out _ rfl) (by omega) HLL.out).mono ?_
    rintro e w1 ⟨rfl, rfl⟩
    rw [← HE.out]
    go_wp2_with fail
    go_ret3
    exact ⟨_, _, _, _, _, _, [], [], E, rfl, HasP.nil _, HasP.nil _, .inl ⟨HE.out, H0.out, rfl, rfl⟩, (fun p hp => by cases hp), (fun p hp => by cases hp), Gr.new w _⟩

/-- Result and error of PowMod. -/
def PowR (m : Int) (a f : List Int) (N : Nat) (r : List Int) (E : Int) : Prop :=
  (E = checkE m [a, f] ∧ E ≠ 0 ∧ r = []) ∨ (checkE m [a, f] = 0 ∧ ¬ divU m f ∧ E = 7 ∧ r = []) ∨ (checkE m [a, f] = 0 ∧ divU m f ∧ E = 0 ∧ Op.Rem m f (Op.pw a N) r)
theorem PowR.unique {m : Int} {a f r r' : List Int} {N : Nat} {E E' : Int} (hU : U32 a) (hU' : U32 f) (h : PowR m a f N r E) (k : PowR m a f N r' E') : r = r' ∧ E = E' := by
  rcases h with ⟨h1, h2, h3⟩ | ⟨h1, h2, h3, h4⟩ | ⟨h1, h2, h3, h4⟩ <;> rcases k with ⟨k1, k2, k3⟩ | ⟨k1, k2, k3, k4⟩ | ⟨k1, k2, k3, k4⟩
  · exact ⟨h3.trans k3.symm, h1.trans k1.symm⟩
  · omega
  · omega
  · omega
  · exact ⟨h4.trans k4.symm, h3.trans k3.symm⟩
  · exact absurd k2 h2
  · omega
  · exact absurd h2 k2
  · have hm := ((checkE_two hU hU').1 h1).1
    unfold okM at hm
    exact ⟨Op.Rem.unique (by omega) h2.2 h4 k4, h3.trans k3.symm⟩
/-- Numbers and an error that fit R are returned. -/
def NewE (R : List Int → Int → Prop) (w : World) (e : Ending) (w' : World) : Prop :=
  ∃ x n c l E, e = .returned (.tuple #[.slice x n c, .int .i64 E]) ∧ HasP w' (.slice x n c) l ∧ R l E ∧ (∀ p, x = some p → w.heap.size ≤ p.block) ∧ Gr w w'

set_option maxRecDepth 100000 in
set_option maxHeartbeats 1000000 in
theorem pPowMod_any (m : Int) (a b : List Int) (N : Nat) (u v : Value) (w : World) (hu : HasP w u a) (hv : HasP w v b) (hla : a.length ≤ 1000) (hlb : b.length ≤ 1000) (hN : N ≤ 18446744073709551615) :
    Calls Try.prog 91 #[.int .u32 m, u, .int .u64 N, v] w (NewE (PowR m a b N) w) := by
  obtain ⟨-, xa, ca, rfl, -, -, -⟩ := id hu
  obtain ⟨-, xb, cb, rfl, -, -, -⟩ := id hv
  obtain ⟨na, hna⟩ : ∃ na, na = a.length := ⟨_, rfl⟩
  obtain ⟨nb, hnb⟩ : ∃ nb, nb = b.length := ⟨_, rfl⟩
  rw [← hna] at hu ⊢
  rw [← hnb] at hv ⊢
  have HU := Lib.hid hu
  have HV := Lib.hid hv
  have HLA := Lib.hid hla
  have HLB := Lib.hid hlb
  have HNN := Lib.hid hN
  have HLL := Lib.hid (show ∀ l ∈ [a, b], l.length ≤ 9223372036854775807 from fun l hl => by simp at hl; rcases hl with rfl | rfl <;> omega)
  have HIFF := Lib.hid (checkE_two (m := m) hu.1 hv.1)
  obtain ⟨E, hE⟩ : ∃ E, E = checkE m [a, b] := ⟨_, rfl⟩
  have HE := Lib.hid hE
  clear hu hv hla hlb hna hnb hE hN
  by_cases h0 : E = 0
  · subst h0
    have HOK := Lib.hid (HIFF.out.1 HE.out.symm)
    have HMB := Lib.hid (show 2 ≤ m ∧ m ≤ 2147483647 from HOK.out.1)
    by_cases hU : divU m b
    · have HDU := Lib.hid hU
      clear hU
      go_enter Try.func91, Try.ntmps91
      go_wp2_with fail
      refine (check_any m w.heap.size 2 _ [a, b] _ (ll_two HU.out HV.out _ rfl) (by omega) HLL.out).mono ?_
      rintro e w1 ⟨rfl, rfl⟩
      rw [← HE.out]
      go_wp2_with fail
      refine (divisor_ok m b _ _ HMB.out HOK.out.2.2.2.1 HDU.out.1 (HV.out.later (Gr.new w _)) HDU.out.2).mono ?_
      rintro e w1 ⟨rc, rfl, hr0, hr1, hr2, hg1⟩
      have HD := Lib.hid (show DvsOK m rc b from ⟨HMB.out, HOK.out.2.2.2.1, List.length_pos_iff.2 HDU.out.1, ⟨hr0, hr1⟩, hr2⟩)
      have HG1 := Lib.hid ((Gr.new w _).trans hg1)
      clear hr2 hg1
      go_wp2_with fail
      refine (power_any' m rc a b N _ xb nb cb _ HD.out HOK.out.2.1.2 (HU.out.later (HG1.out.alloc _)) (HV.out.later (HG1.out.alloc _)) HLA.out HLB.out HNN.out).mono ?_
      rintro e w2 ⟨x1, n1, c1, r, rfl, hr, hrem, hf1, hg2⟩
      have H := Lib.hid (And.intro hr (And.intro hrem (And.intro hf1 hg2)))
      clear hr hrem hf1 hg2
      go_wp2_with fail
      go_ret2
      obtain ⟨hr, hrem, hf1, hg2⟩ := H.out
      have hs := (HG1.out.alloc (.cells #[.int .u32 m, .slice xb nb cb, .int .u32 rc] 115)).size
      exact ⟨_, _, _, r, 0, rfl, hr, .inr (.inr ⟨HE.out.symm, HDU.out, rfl, hrem⟩), (fun p hp => Nat.le_trans hs (hf1 p hp)), (HG1.out.alloc _).trans hg2⟩
    · have HDU := Lib.hid hU
      have HX := Lib.hid (fun (W : World) (hW : HasP W (.slice xb nb cb) b) => (show Calls Try.prog 94 #[.int .u32 m, .slice xb nb cb] W (DvsNo W) from by
        by_cases hb : b = []
        · exact divisor_empty m _ W (by rw [← hb]; exact hW)
        · exact divisor_none m b _ W HMB.out HOK.out.2.2.2.1 hb hW (fun h => HDU.out ⟨hb, h⟩)))
      clear hU
      go_enter Try.func91, Try.ntmps91
      go_wp2_with fail
      refine (check_any m w.heap.size 2 _ [a, b] _ (ll_two HU.out HV.out _ rfl) (by omega) HLL.out).mono ?_
      rintro e w1 ⟨rfl, rfl⟩
      rw [← HE.out]
      go_wp2_with fail
      refine (HX.out _ (HV.out.later (Gr.new w _))).mono ?_
      rintro e w1 ⟨p, ya, yn, yc, rfl, hg1⟩
      have HG1 := Lib.hid ((Gr.new w _).trans hg1)
      clear hg1
      go_wp2_with fail
      go_ret2
      exact ⟨_, _, _, [], 7, rfl, HasP.nil _, .inr (.inl ⟨HE.out.symm, HDU.out, rfl, rfl⟩), (fun p hp => by cases hp), HG1.out.alloc _⟩
  · have hf : (E != 0) = true := by simp [h0]
    have H0 := Lib.hid h0
    go_enter Try.func91, Try.ntmps91
    go_wp2_with fail
    refine (check_any m w.heap.size 2 _ [a, b] _ (ll_two HU.out HV.out _ rfl) (by omega) HLL.out).mono ?_
    rintro e w1 ⟨rfl, rfl⟩
    rw [← HE.out]
    go_wp2_with fail
    go_ret2
    exact ⟨_, _, _, [], E, rfl, HasP.nil _, .inl ⟨HE.out, H0.out, rfl⟩, (fun p hp => by cases hp), Gr.new w _⟩

/-- Result and error of Wrap. -/
def WrapR (m : Int) (a : List Int) (n : Int) (l : List Int) (E : Int) : Prop :=
  (E = checkE m [a] ∧ E ≠ 0 ∧ l = []) ∨ (checkE m [a] = 0 ∧ ¬ (1 ≤ n ∧ n ≤ 256) ∧ E = 2 ∧ l = []) ∨ (checkE m [a] = 0 ∧ (1 ≤ n ∧ n ≤ 256) ∧ E = 0 ∧ l.length = n.toNat ∧ Op.Rs m l ∧ Op.Wr m n.toNat a l)
theorem WrapR.unique {m n : Int} {a l l' : List Int} {E E' : Int} (hU : U32 a) (h : WrapR m a n l E) (k : WrapR m a n l' E') : l = l' ∧ E = E' := by
  rcases h with ⟨h1, h2, h3⟩ | ⟨h1, h2, h3, h4⟩ | ⟨h1, h2, h3, h4, h5, h6⟩ <;> rcases k with ⟨k1, k2, k3⟩ | ⟨k1, k2, k3, k4⟩ | ⟨k1, k2, k3, k4, k5, k6⟩
  · exact ⟨h3.trans k3.symm, h1.trans k1.symm⟩
  · omega
  · omega
  · omega
  · exact ⟨h4.trans k4.symm, h3.trans k3.symm⟩
  · omega
  · omega
  · omega
  · have hm := ((checkE_one hU).1 h1).1
    unfold okM at hm
    refine ⟨Op.ext_cf (h4.trans k4.symm) (Op.rs_eq (by omega) h5 k5 (Op.Wr.unique (n := n.toNat) (by omega) (by omega) (by omega) (Op.Cg.refl m a) h6 k6)), h3.trans k3.symm⟩

end Go.Proofs.Ytplfeeaocjgliaa
/- The reference: at, Same, Trim, minus, Check, both, Inverse. -/
namespace Go.Proofs.Ytplfeeaocjgliaa
open Go.RowKit
set_option linter.unusedVariables false

set_option maxHeartbeats 400000 in
theorem at_any (l : List Int) (i : Nat) (v : Value) (w : World) (h : HasP w v l) (hl : l.length ≤ 1000000) (hi : i ≤ 1000000) :
    Calls Try.prog 51 #[v, .int .i64 i] w (fun e w' => e = .returned (.int .u64 (Op.cf l i)) ∧ w = w') := by
  obtain ⟨hd, a, cap, rfl, h1, h2, hc⟩ := h
  by_cases hlt : i < l.length
  · obtain ⟨g, o, rfl, hcell⟩ := hc i hlt
    have hx := hd.at_ i
    obtain ⟨n, hn⟩ : ∃ n, n = l.length := ⟨_, rfl⟩
    obtain ⟨x, hxe⟩ : ∃ x, x = Op.cf l i := ⟨_, rfl⟩
    rw [← hn] at hlt h1 hl ⊢
    rw [← hxe] at hcell hx ⊢
    obtain ⟨hx0, hx1⟩ := hx
    clear hc hd hn hxe
    have i1 : (i : Int) < (n : Int) := by omega
    go_enter Try.func51, Try.ntmps51
    go_wp2_with fail
    go_ret
    exact ⟨rfl, rfl⟩
  · rw [Op.cf_out (by omega)]
    obtain ⟨n, hn⟩ : ∃ n, n = l.length := ⟨_, rfl⟩
    rw [← hn] at hlt h1 hl ⊢
    clear hc hd hn
    have i1 : ¬ (i : Int) < (n : Int) := by omega
    go_enter Try.func51, Try.ntmps51
    go_wp2_with fail
    go_ret
    exact ⟨rfl, rfl⟩

set_option maxRecDepth 100000 in
set_option maxHeartbeats 1000000 in
theorem same_any (a b : List Int) (u v : Value) (w : World) (hu : HasP w u a) (hv : HasP w v b) (hla : a.length ≤ 1000000) (hlb : b.length ≤ 1000000) :
    Calls Try.prog 32 #[u, v] w (fun e w' => e = .returned (.bool (decide (a = b))) ∧ Gr w w') := by
  obtain ⟨da, xa, ca, rfl, a1, a2, hca⟩ := hu
  obtain ⟨db, xb, cb, rfl, b1, b2, hcb⟩ := hv
  obtain ⟨na, hna⟩ : ∃ na, na = a.length := ⟨_, rfl⟩
  obtain ⟨nb, hnb⟩ : ∃ nb, nb = b.length := ⟨_, rfl⟩
  rw [← hna] at hla a1 ⊢
  rw [← hnb] at hlb b1 ⊢
  have HNA := Lib.hid hna
  have HNB := Lib.hid hnb
  have HCA := Lib.hid hca
  have HCB := Lib.hid hcb
  have HDA := Lib.hid da
  have HDB := Lib.hid db
  clear hna hnb hca hcb da db
  by_cases hl : na = nb
  · subst hl
    go_enter Try.func32, Try.ntmps32
    go_wp2_with fail
    go_loopw [5] (fun t wr => ∃ k : Nat, t = .int .i64 k ∧ k ≤ na ∧ (∀ i, i < k → Op.cf a i = Op.cf b i) ∧ Gr w wr) (fun t _ => na - (intOf t).toNat)
    case atStart => exact ⟨0, rfl, by omega, fun i hi => by omega, Gr.refl w⟩
    case round =>
      obtain ⟨k, rfl, hk, ht, hg⟩ := hrel
      have HT := Lib.hid ht
      have HG := Lib.hid hg
      clear ht hg
      by_cases hlt : k < na
      · obtain ⟨g, o, rfl, c1⟩ := HCA.out k (by rw [← HNA.out]; exact hlt)
        obtain ⟨g', o', rfl, c2⟩ := HCB.out k (by rw [← HNB.out]; exact hlt)
        have c1 := HG.out.keeps c1
        have c2 := HG.out.keeps c2
        have hx := HDA.out.at_ k
        have hy := HDB.out.at_ k
        obtain ⟨x, hxe⟩ : ∃ x, x = Op.cf a k := ⟨_, rfl⟩
        obtain ⟨y, hye⟩ : ∃ y, y = Op.cf b k := ⟨_, rfl⟩
        rw [← hxe] at c1 hx
        rw [← hye] at c2 hy
        have HX := Lib.hid hxe
        have HY := Lib.hid hye
        have i1 : (k : Int) < (na : Int) := by omega
        have i2 : (0 : Int) ≤ (k : Int) := by omega
        clear hxe hye hx hy
        by_cases he : x = y
        · have hb : (x != y) = false := by simp [he]
          have HE := Lib.hid he
          clear he
          go_wp2_with fail
          go_quiet (fail)
          go_wp2_with fail
          go_roundw
          case rel => exact ⟨k + 1, by go_num, by omega, (fun i hi => by
            by_cases h : i < k
            · exact HT.out i h
            · obtain rfl : i = k := by omega
              rw [← HX.out, ← HY.out, HE.out]), HG.out.drewN _⟩
          case measure => simp [intOf]; omega
        · have hb : (x != y) = true := by simp [he]
          have HE := Lib.hid he
          clear he
          have HF := Lib.hid (show decide (a = b) = false from by simp; intro h; apply HE.out; rw [HX.out, HY.out, h])
          go_wp2_with fail
          go_quiet (fail)
          go_wp2_with fail
          go_ret
          exact ⟨by rw [HF.out]; rfl, HG.out.drewN _⟩
      · have HF := Lib.hid (show decide (a = b) = true from by
          simp
          exact Op.ext_cf (by rw [← HNA.out, ← HNB.out]) (fun i => by
            by_cases h : i < k
            · exact HT.out i h
            · rw [Op.cf_out (by rw [← HNA.out]; omega), Op.cf_out (by rw [← HNB.out]; omega)]))
        go_wp2_with fail
        go_ret
        exact ⟨by rw [HF.out]; rfl, HG.out⟩
  · have HF := Lib.hid (show decide (a = b) = false from by simp; intro h; apply hl; rw [HNA.out, HNB.out, h])
    have hb : ((na : Int) != (nb : Int)) = true := by simp; omega
    have HL := Lib.hid hl
    clear hl
    go_enter Try.func32, Try.ntmps32
    go_wp2_with fail
    go_ret
    exact ⟨by rw [HF.out]; rfl, Gr.refl w⟩

set_option maxRecDepth 100000 in
set_option maxHeartbeats 1000000 in
theorem trim5_any (l : List Int) (v : Value) (w : World) (h : HasP w v l) (hl : l.length ≤ 1000000) :
    Calls Try.prog 52 #[v] w (NewP (Op.tz l) w) := by
  have HV := Lib.hid h
  obtain ⟨hd, a, cap, rfl, h1, h2, hc⟩ := h
  obtain ⟨len, hlen⟩ : ∃ len, len = l.length := ⟨_, rfl⟩
  have HC := Lib.hid hc
  have HD := Lib.hid hd
  rw [← hlen] at h1 hl HV ⊢
  have HLEN := Lib.hid hlen
  clear hc hd hlen
  have htail : ∀ k, k ≤ len → Op.tz l = l.take k → HasP w (.slice a k cap) (Op.tz l) := fun k hk e => by
    rw [e]; exact HV.out.take (by rw [← HLEN.out]; exact hk)
  have HTAIL := Lib.hid htail
  have HTL := Lib.hid (Op.tz_len l)
  clear htail
  go_enter Try.func52, Try.ntmps52
  go_wp2_with fail
  go_loop [3] (fun t => ∃ k : Nat, t = .int .i64 k ∧ k ≤ len ∧ Op.tz (l.take k) = Op.tz l) (fun t => (intOf t).toNat)
  case atStart => exact ⟨len, rfl, by omega, by rw [HLEN.out, List.take_length]⟩
  case round =>
    obtain ⟨k, rfl, hk, ht⟩ := hrel
    have HT := Lib.hid ht
    clear ht
    rcases k with _ | j
    · have HP := Lib.hid (HTAIL.out 0 (by omega) (by rw [← HT.out]; rfl))
      go_wp2_with (at_builtin; refine wpList_app rfl (.tmp 19) (.tmp 22) rfl rfl w.heap.size (.slice none 0 0) [] rfl (Own1.nil _ _) (.slice a 0 cap) (Op.tz l) rfl HP.out (by have := HTL.out; rw [← HLEN.out] at this; simp; omega) (Nat.le_refl _) ?_; intro v' w2 hown hgrow; have HO := Lib.hid hown; have HG := Lib.hid (show Gr w w2 from grown_own (Gr.refl _) (Own1.nil _ w.heap.size) hgrow (Nat.le_refl _)); clear hown hgrow)
      go_ret
      obtain ⟨ar, cr, rfl, hr1, hr2⟩ := HO.out.form
      exact ⟨_, _, _, rfl, by have h := HO.out.hasP; rw [List.nil_append] at h ⊢; exact h, HO.out.fresh rfl, HG.out⟩
    · have hjl : j < l.length := by rw [← HLEN.out]; omega
      obtain ⟨g, o, rfl, hcell⟩ := HC.out j hjl
      have hx := HD.out.at_ j
      obtain ⟨x, hxe⟩ : ∃ x, x = Op.cf l j := ⟨_, rfl⟩
      rw [← hxe] at hcell hx
      obtain ⟨hx0, hx1⟩ := hx
      have HX := Lib.hid hxe
      have HJ := Lib.hid hjl
      clear hxe hjl
      have i1 : (j : Int) < (len : Int) := by omega
      by_cases hz : x = 0
      · have hb : (x == 0) = true := by simp [hz]
        have HZ := Lib.hid hz
        clear hz
        go_wp2_with fail
        go_round
        case rel => exact ⟨j, by go_num, by omega, by rw [← Op.tz_take_zero (HX.out.symm.trans HZ.out)]; exact HT.out⟩
        case measure => simp [intOf]
      · have hb : (x == 0) = false := by simp [hz]
        have HZ := Lib.hid hz
        clear hz
        have HP := Lib.hid (HTAIL.out (j + 1) hk (by rw [← HT.out]; exact Op.tz_take_last HJ.out (by rw [← HX.out]; exact HZ.out)))
        go_wp2_with (at_builtin; refine wpList_app rfl (.tmp 19) (.tmp 22) rfl rfl w.heap.size (.slice none 0 0) [] rfl (Own1.nil _ _) (.slice (some ⟨g, o, none⟩) (j + 1) cap) (Op.tz l) rfl HP.out (by have := HTL.out; rw [← HLEN.out] at this; simp; omega) (Nat.le_refl _) ?_; intro v' w2 hown hgrow; have HO := Lib.hid hown; have HG := Lib.hid (show Gr w w2 from grown_own (Gr.refl _) (Own1.nil _ w.heap.size) hgrow (Nat.le_refl _)); clear hown hgrow)
        go_ret
        obtain ⟨ar, cr, rfl, hr1, hr2⟩ := HO.out.form
        exact ⟨_, _, _, rfl, by have h := HO.out.hasP; rw [List.nil_append] at h ⊢; exact h, HO.out.fresh rfl, HG.out⟩
end Go.Proofs.Ytplfeeaocjgliaa
/- The reference: minus, times, power. -/
namespace Go.Proofs.Ytplfeeaocjgliaa
open Go.RowKit
set_option linter.unusedVariables false

set_option maxRecDepth 100000 in
set_option maxHeartbeats 2000000 in
theorem times5_any (m : Int) (a b : List Int) (u v : Value) (w : World) (hm : 1 ≤ m ∧ m ≤ 4294967295) (hu : HasP w u a) (hv : HasP w v b) (hla : a.length ≤ 100000) (hlb : b.length ≤ 100000) :
    Calls Try.prog 31 #[.int .u32 m, u, v] w (NewP (Op.nf m (Op.mul a b)) w) := by
  have HDA := Lib.hid hu.1
  have HDB := Lib.hid hv.1
  have HU := Lib.hid hu
  have HV := Lib.hid hv
  obtain ⟨-, xa, ca, rfl, a1, a2, -⟩ := hu
  obtain ⟨-, xb, cb, rfl, b1, b2, -⟩ := hv
  obtain ⟨la, hla'⟩ : ∃ la, la = a.length := ⟨_, rfl⟩
  obtain ⟨lb, hlb'⟩ : ∃ lb, lb = b.length := ⟨_, rfl⟩
  rw [← hla'] at a1 hla HU ⊢
  rw [← hlb'] at b1 hlb HV ⊢
  have HLA := Lib.hid hla'
  have HLB := Lib.hid hlb'
  have HLA2 := Lib.hid (show a.length ≤ 1000000 from by omega)
  have HLB2 := Lib.hid (show b.length ≤ 1000000 from by omega)
  obtain ⟨hm1, hm2⟩ := hm
  clear hla' hlb'
  go_enter Try.func31, Try.ntmps31
  go_wp2_with fail
  go_loopw [7, 8] (fun s t wr => ∃ (k : Nat) (pre : List Int), t = .int .i64 k ∧ k ≤ la + lb ∧ pre.length = k ∧ (∀ i, i < k → Op.cf pre i = Op.cf (Op.mul a b) i % m) ∧ Own1 wr w.heap.size s pre ∧ Gr w wr) (fun _ t _ => la + lb - (intOf t).toNat)
  case atStart => exact ⟨0, [], rfl, by omega, rfl, (fun i hi => by omega), Own1.nil _ _, Gr.refl w⟩
  case round =>
    obtain ⟨k, pre, rfl, hk, hp, hpc, hown, hg⟩ := hrel
    have HP := Lib.hid hp
    have HPC := Lib.hid hpc
    have HO := Lib.hid hown
    have HG := Lib.hid hg
    have hsz := hg.size
    obtain ⟨vx, vc, rfl, -, -⟩ := hown.form
    clear hp hpc hown hg
    by_cases hlt : k < la + lb
    · have HUW := Lib.hid (HU.out.later HG.out)
      have HVW := Lib.hid (HV.out.later HG.out)
      have i2 : (k : Int) < (la : Int) + (lb : Int) := by omega
      go_wp2_with fail
      go_loop [9, 10] (fun s t => ∃ (j : Nat) (z : Int), s = .int .u64 z ∧ t = .int .i64 j ∧ j ≤ k + 1 ∧ 0 ≤ z ∧ z < m ∧ m ∣ z - Op.S j (fun i => Op.cf a i * Op.cf b (k - i))) (fun _ t => k + 1 - (intOf t).toNat)
      case atStart => exact ⟨0, 0, rfl, rfl, by omega, by omega, by omega, ⟨0, by simp [Op.S]⟩⟩
      case round =>
        obtain ⟨j, z, rfl, rfl, hj, hz0, hz1, hzd⟩ := hrel
        have HZD := Lib.hid hzd
        clear hzd
        by_cases hjk : j ≤ k
        · have hx := HDA.out.at_ j
          have hy := HDB.out.at_ (k - j)
          obtain ⟨x, hxe⟩ : ∃ x, x = Op.cf a j := ⟨_, rfl⟩
          obtain ⟨y, hye⟩ : ∃ y, y = Op.cf b (k - j) := ⟨_, rfl⟩
          rw [← hxe] at hx
          rw [← hye] at hy
          have HX := Lib.hid hxe
          have HY := Lib.hid hye
          obtain ⟨hx0, hx1⟩ := hx
          obtain ⟨hy0, hy1⟩ := hy
          have i3 : (j : Int) ≤ (k : Int) := by omega
          have i4 : (k : Int) - (j : Int) = ((k - j : Nat) : Int) := by omega
          have p0 := mul_lo hx0 hy0
          have p1 := mul_hi hx0 hy0 (by omega) (by omega)
          have r0 := emod_lo (z + x * y) m hm1
          have r1 := emod_hi (z + x * y) m hm1
          have hj6 : j ≤ 1000000 := by omega
          have hkj6 : k - j ≤ 1000000 := by omega
          have HZ2 := Lib.hid (show m ∣ (z + x * y) % m - Op.S (j + 1) (fun i => Op.cf a i * Op.cf b (k - i)) from by
            have h1 := Op.dvd_mod m (z + x * y)
            have e : (z + x * y) % m - Op.S (j + 1) (fun i => Op.cf a i * Op.cf b (k - i)) = ((z + x * y) % m - (z + x * y)) + (z - Op.S j (fun i => Op.cf a i * Op.cf b (k - i))) := by
              rw [Op.S, hxe, hye]; omega
            rw [e]; exact Int.dvd_add h1 HZD.out)
          clear hxe hye
          go_wp2_with (first
            | (go_at_call 51; ((with_reducible refine (at_any a j _ _ HUW.out HLA2.out hj6).mono ?_); rintro e w' ⟨rfl, rfl⟩; rw [← HX.out]))
            | (go_at_call 51; (try rw [i4]); ((with_reducible refine (at_any b (k - j) _ _ HVW.out HLB2.out hkj6).mono ?_); rintro e w' ⟨rfl, rfl⟩; rw [← HY.out])))
          go_round
          case rel => exact ⟨j + 1, (z + x * y) % m, rfl, by go_num, by omega, r0, r1, HZ2.out⟩
          case measure => simp [intOf]; omega
        · obtain rfl : j = k + 1 := by omega
          have i3 : ¬ ((k + 1 : Nat) : Int) ≤ (k : Int) := by omega
          have i5 : ¬ (k : Int) + 1 ≤ (k : Int) := by omega
          have HPL := Lib.hid (show pre.length + [z].length ≤ 1000000 from by rw [HP.out]; simp; omega)
          have HRB := Lib.hid (show 0 ≤ z ∧ z < 4294967296 from by omega)
          have HZE := Lib.hid (show z = Op.cf (Op.mul a b) k % m from by
            have h := HZD.out
            rw [← Op.cf_mul] at h
            exact Op.dvd_small (by
              have h1 := Op.dvd_mod m (Op.cf (Op.mul a b) k)
              have e : z - Op.cf (Op.mul a b) k % m = (z - Op.cf (Op.mul a b) k) - (Op.cf (Op.mul a b) k % m - Op.cf (Op.mul a b) k) := by omega
              rw [e]; exact Int.dvd_sub h h1) ⟨hz0, hz1⟩ ⟨Int.emod_nonneg _ (by omega), Int.emod_lt_of_pos _ (by omega)⟩)
          go_wp2_with (at_builtin; refine wpList_app rfl (.tmp 39) (.tmp 42) rfl rfl w.heap.size (.slice vx pre.length vc) pre rfl (HO.out.alloc _) (.slice (some ⟨wr.heap.size, 0, none⟩) 1 1) [z] rfl (one_hasP' _ _ _ rfl HRB.out) HPL.out (Nat.le_trans hsz (Nat.le_of_lt (by simp))) ?_; intro v' w2 hown hgrow; have HO2 := Lib.hid hown; have HG2 := Lib.hid (show Gr w w2 from grown_own (HG.out.alloc _) (HO.out.alloc _) hgrow (Nat.le_refl _)); clear hown hgrow)
          go_roundw
          case rel => exact ⟨k + 1, pre ++ [z], by go_num, by omega, by rw [List.length_append, HP.out]; rfl, (fun i hi => by
              rw [Op.cf_append]
              by_cases h : i < pre.length
              · rw [if_pos h]; exact HPC.out i (by have := HP.out; omega)
              · rw [if_neg h]
                obtain rfl : i = k := by have := HP.out; omega
                rw [HP.out, Nat.sub_self]; exact HZE.out), HO2.out, HG2.out⟩
          case measure => simp [intOf]; omega
    · obtain rfl : k = la + lb := by omega
      have i2 : ¬ (((la + lb : Nat) : Int) < (la : Int) + (lb : Int)) := by omega
      have HNF := Lib.hid (show Op.tz pre = Op.nf m (Op.mul a b) from Op.tz_nf (fun i => by
        by_cases h : i < la + lb
        · exact HPC.out i h
        · rw [Op.cf_out (l := pre) (by rw [HP.out]; omega), Op.cf_mul_out (by rw [← HLA.out, ← HLB.out]; omega)]
          simp))
      go_wp2_with fail
      refine (trim5_any pre _ _ HO.out.hasP (by rw [HP.out]; omega)).mono ?_
      rintro e w2 ⟨x, j, c, rfl, hx, hfr, hg2⟩
      have H := Lib.hid (And.intro hx (And.intro hfr hg2))
      clear hx hfr hg2
      go_wp2_with fail
      go_ret
      obtain ⟨hx, hfr, hg2⟩ := H.out
      exact ⟨_, _, _, rfl, by rw [← HNF.out]; exact hx, (fun p hp => Nat.le_trans hsz (hfr p hp)), HG.out.trans hg2⟩

end Go.Proofs.Ytplfeeaocjgliaa
/- The reference: Check, both, Inverse, leads, split. -/
namespace Go.Proofs.Ytplfeeaocjgliaa
open Go.RowKit
set_option linter.unusedVariables false

set_option maxRecDepth 100000 in
set_option maxHeartbeats 1000000 in
theorem check5_any (m : Int) (a : List Int) (u : Value) (w : World) (hu : HasP w u a) (hla : a.length ≤ 9223372036854775807) :
    Calls Try.prog 50 #[.int .u32 m, u] w (fun e w' => e = .returned (.int .i64 (checkE m [a])) ∧ w = w') := by
  obtain ⟨hd, x, cap, rfl, h1, h2, hc⟩ := hu
  obtain ⟨n, hn⟩ : ∃ n, n = a.length := ⟨_, rfl⟩
  have HC := Lib.hid hc
  have HD := Lib.hid hd
  rw [← hn] at h1 hla ⊢
  have HN := Lib.hid hn
  clear hc hd hn
  have HK := Lib.hid (show chk m [a] = chk1 m a from by unfold chk; split <;> simp_all [chk])
  by_cases hm : okM m
  · have HE := Lib.hid (show checkE m [a] = chk1 m a from (if_pos hm).trans HK.out)
    obtain ⟨hm1, hm2⟩ := hm
    by_cases h256 : 256 < n
    · have HR := Lib.hid (show chk1 m a = 3 from if_pos (by rw [← HN.out]; omega))
      go_enter Try.func50, Try.ntmps50
      go_wp2_with fail
      go_ret
      exact ⟨by rw [HE.out, HR.out]; rfl, rfl⟩
    · have HR := Lib.hid (show chk1 m a = if lowB m a = true ∧ (Op.tz a).length = a.length then 0 else 2 from if_neg (by rw [← HN.out]; omega))
      go_enter Try.func50, Try.ntmps50
      go_wp2_with fail
      go_loop [5] (fun t => ∃ k : Nat, t = .int .i64 k ∧ k ≤ n ∧ ∀ i, i < k → Op.cf a i < m) (fun t => n - (intOf t).toNat)
      case atStart => exact ⟨0, rfl, by omega, fun i hi => by omega⟩
      case round =>
        obtain ⟨k, rfl, hk, ht⟩ := hrel
        have HT := Lib.hid ht
        clear ht
        by_cases hlt : k < n
        · have hjl : k < a.length := by rw [← HN.out]; exact hlt
          obtain ⟨g, o, rfl, hcell⟩ := HC.out k hjl
          have hx := HD.out.at_ k
          obtain ⟨y, hye⟩ : ∃ y, y = Op.cf a k := ⟨_, rfl⟩
          rw [← hye] at hcell hx
          obtain ⟨hx0, hx1⟩ := hx
          have HX := Lib.hid hye
          have HJ := Lib.hid hjl
          clear hye hjl
          by_cases hz : m ≤ y
          · have HR2 := Lib.hid (show chk1 m a = 2 from by
              rw [HR.out]
              apply if_neg
              rintro ⟨h, _⟩
              have := lowB_true.1 h k HJ.out
              rw [← HX.out] at this
              omega)
            go_wp2_with fail
            go_ret
            exact ⟨by rw [HE.out, HR2.out]; rfl, rfl⟩
          · go_wp2_with fail
            go_round
            case rel => exact ⟨k + 1, by go_num, by omega, fun i hi => by
              by_cases h : i < k
              · exact HT.out i h
              · obtain rfl : i = k := by omega
                rw [← HX.out]; omega⟩
            case measure => simp [intOf]; omega
        · obtain rfl : k = n := by omega
          have HLOW := Lib.hid (show lowB m a = true from lowB_true.2 (fun i hi => HT.out i (by rw [HN.out]; exact hi)))
          rcases k with _ | j
          · have HR2 := Lib.hid (show chk1 m a = 0 from by
              rw [HR.out]
              apply if_pos
              have h0 : a = [] := List.eq_nil_of_length_eq_zero HN.out.symm
              refine ⟨HLOW.out, ?_⟩
              rw [h0]; rfl)
            go_wp2_with fail
            go_ret
            exact ⟨by rw [HE.out, HR2.out]; rfl, rfl⟩
          · have hjl : j < a.length := by rw [← HN.out]; omega
            obtain ⟨g, o, rfl, hcell⟩ := HC.out j hjl
            have hx := HD.out.at_ j
            obtain ⟨y, hye⟩ : ∃ y, y = Op.cf a j := ⟨_, rfl⟩
            rw [← hye] at hcell hx
            have HX := Lib.hid (show y = Op.cf a (a.length - 1) from by rw [← HN.out]; exact hye)
            obtain ⟨hx0, hx1⟩ := hx
            have HNE := Lib.hid (show a ≠ [] from by intro h; rw [h] at hjl; simp at hjl)
            clear hye hjl
            have e1 : ((j + 1 : Nat) : Int) - 1 = (j : Int) := by omega
            by_cases hz : y = 0
            · have hb : (y == 0) = true := by simp [hz]
              have HZ := Lib.hid hz
              clear hz
              have HR2 := Lib.hid (show chk1 m a = 2 from by
                rw [HR.out]
                apply if_neg
                rintro ⟨_, h⟩
                have h2 : Op.tz a = a := by rw [tz_take a, h, List.take_length]
                exact Op.tz_last h2 HNE.out (HX.out.symm.trans HZ.out))
              go_wp2_with fail
              go_ret
              exact ⟨by rw [HE.out, HR2.out]; rfl, rfl⟩
            · have hb : (y == 0) = false := by simp [hz]
              have HZ := Lib.hid hz
              clear hz
              have HR2 := Lib.hid (show chk1 m a = 0 from by
                rw [HR.out]
                apply if_pos
                refine ⟨HLOW.out, ?_⟩
                rw [Op.tz_id (fun _ => by rw [← HX.out]; exact HZ.out)])
              go_wp2_with fail
              go_ret
              exact ⟨by rw [HE.out, HR2.out]; rfl, rfl⟩
  · have HE := Lib.hid (show checkE m [a] = 2 from if_neg hm)
    by_cases h1' : m < 2
    · clear hm
      go_enter Try.func50, Try.ntmps50
      go_wp2_with fail
      go_ret
      exact ⟨by rw [HE.out]; rfl, rfl⟩
    · have h2' : 2147483647 < m := by unfold okM at hm; omega
      clear hm
      go_enter Try.func50, Try.ntmps50
      go_wp2_with fail
      go_ret
      exact ⟨by rw [HE.out]; rfl, rfl⟩

theorem checkE_cons (m : Int) (a b : List Int) : checkE m [a, b] = if checkE m [a] = 0 then checkE m [b] else checkE m [a] := by
  unfold checkE
  by_cases h : okM m
  · rw [if_pos h, if_pos h, if_pos h]
    show (if chk1 m a = 0 then chk m [b] else chk1 m a) = _
    have e : ∀ x, chk m [x] = chk1 m x := fun x => by unfold chk; split <;> simp_all [chk]
    rw [e, e]
  · rw [if_neg h, if_neg h, if_neg h]; rfl

set_option maxHeartbeats 1000000 in
theorem both5_any (m : Int) (a b : List Int) (u v : Value) (w : World) (hu : HasP w u a) (hv : HasP w v b) (hla : a.length ≤ 1000) (hlb : b.length ≤ 1000) :
    Calls Try.prog 30 #[.int .u32 m, u, v] w (fun e w' => e = .returned (.int .i64 (checkE m [a, b])) ∧ w = w') := by
  have HU := Lib.hid hu
  have HV := Lib.hid hv
  have HC := Lib.hid (checkE_cons m a b)
  obtain ⟨E, hE⟩ : ∃ E, E = checkE m [a] := ⟨_, rfl⟩
  have HE := Lib.hid hE
  clear hu hv hE
  by_cases h0 : E = 0
  · have hf : (E != 0) = false := by simp [h0]
    have H0 := Lib.hid h0
    clear h0
    go_enter Try.func30, Try.ntmps30
    go_wp2_with fail
    refine (check5_any m a _ _ HU.out (by omega)).mono ?_
    rintro e w1 ⟨rfl, rfl⟩
    rw [← HE.out]
    go_wp2_with fail
    refine (check5_any m b _ _ HV.out (by omega)).mono ?_
    rintro e w1 ⟨rfl, rfl⟩
    go_wp2_with fail
    go_ret
    exact ⟨by rw [HC.out, if_pos (by rw [← HE.out]; exact H0.out)]; rfl, rfl⟩
  · have hf : (E != 0) = true := by simp [h0]
    have H0 := Lib.hid h0
    clear h0
    go_enter Try.func30, Try.ntmps30
    go_wp2_with fail
    refine (check5_any m a _ _ HU.out (by omega)).mono ?_
    rintro e w1 ⟨rfl, rfl⟩
    rw [← HE.out]
    go_wp2_with fail
    go_ret
    exact ⟨by rw [HC.out, if_neg (by rw [← HE.out]; exact H0.out), ← HE.out]; rfl, rfl⟩

end Go.Proofs.Ytplfeeaocjgliaa
/- The reference: split. -/
namespace Go.Proofs.Ytplfeeaocjgliaa
open Go.RowKit
set_option linter.unusedVariables false

end Go.Proofs.Ytplfeeaocjgliaa
/- The reference: Add, Sub, Mul, DivMod, PowMod. -/
namespace Go.Proofs.Ytplfeeaocjgliaa
open Go.RowKit
set_option linter.unusedVariables false
set_option maxRecDepth 100000 in
set_option maxHeartbeats 2000000 in
theorem rMul_any (m : Int) (a b : List Int) (u v : Value) (w : World) (hu : HasP w u a) (hv : HasP w v b) (hla : a.length ≤ 1000) (hlb : b.length ≤ 1000) :
    Calls Try.prog 15 #[.int .u32 m, u, v] w (PolE (mulL m a b) (mulE m a b) w) := by
  obtain ⟨-, xa, ca, rfl, -, -, -⟩ := id hu
  obtain ⟨-, xb, cb, rfl, -, -, -⟩ := id hv
  obtain ⟨na, hna⟩ : ∃ na, na = a.length := ⟨_, rfl⟩
  obtain ⟨nb, hnb⟩ : ∃ nb, nb = b.length := ⟨_, rfl⟩
  rw [← hna] at hu ⊢
  rw [← hnb] at hv ⊢
  have HU := Lib.hid hu
  have HV := Lib.hid hv
  have HNA := Lib.hid hna
  have HNB := Lib.hid hnb
  have HLA := Lib.hid hla
  have HLB := Lib.hid hlb
  have HIFF := Lib.hid (checkE_two (m := m) hu.1 hv.1)
  obtain ⟨E, hE⟩ : ∃ E, E = checkE m [a, b] := ⟨_, rfl⟩
  try rw [← hE]
  have HE := Lib.hid hE
  have hba : na ≤ 1000 := by omega
  have hbb : nb ≤ 1000 := by omega
  clear hu hv hla hlb hna hnb hE
  by_cases h0 : E = 0
  · subst h0
    have HOK := Lib.hid (HIFF.out.1 HE.out.symm)
    have HMB := Lib.hid (show 1 ≤ m ∧ m ≤ 4294967295 from by have := HOK.out.1; unfold okM at this; omega)
    by_cases ha0 : (0 : Int) < (na : Int)
    · by_cases hb0 : (0 : Int) < (nb : Int)
      · by_cases hlong : (257 : Int) < (na : Int) + (nb : Int)
        · have HME := Lib.hid (show mulE m a b = 3 from by unfold mulE; rw [← HE.out, if_pos rfl]; exact if_pos (by have := HNA.out; have := HNB.out; omega))
          have HN := Lib.hid (show mulL m a b = [] from if_neg (by rw [HME.out]; decide))
          rw [HME.out]
          go_enter Try.func15, Try.ntmps15
          go_wp2_with fail
          refine (both5_any m a b _ _ _ HU.out HV.out HLA.out HLB.out).mono ?_
          rintro e w1 ⟨rfl, rfl⟩
          rw [← HE.out]
          go_wp2_with fail
          go_ret2
          exact ⟨_, _, _, rfl, by rw [HN.out]; exact HasP.nil _, (fun p hp => by cases hp), Gr.refl w⟩
        · have HME := Lib.hid (show mulE m a b = 0 from by unfold mulE; rw [← HE.out, if_pos rfl]; exact if_neg (by have := HNA.out; have := HNB.out; have := HOK.out.2.1.1; have := HOK.out.2.2.1; omega))
          have HN := Lib.hid (show mulL m a b = Op.nf m (Op.mul a b) from if_pos HME.out)
          rw [HME.out]
          go_enter Try.func15, Try.ntmps15
          go_wp2_with fail
          refine (both5_any m a b _ _ _ HU.out HV.out HLA.out HLB.out).mono ?_
          rintro e w1 ⟨rfl, rfl⟩
          rw [← HE.out]
          go_wp2_with fail
          refine (times5_any m a b _ _ _ HMB.out HU.out HV.out (by have := HLA.out; omega) (by have := HLB.out; omega)).mono ?_
          rintro e w2 ⟨x, n, c, rfl, hx, hfr, hg⟩
          have H := Lib.hid (And.intro hx (And.intro hfr hg))
          clear hx hfr hg
          go_wp2_with fail
          go_ret2
          exact ⟨_, _, _, rfl, by rw [HN.out]; exact H.out.1, H.out.2.1, H.out.2.2⟩
      · have HME := Lib.hid (show mulE m a b = 0 from by unfold mulE; rw [← HE.out, if_pos rfl]; exact if_neg (by have := HNA.out; have := HNB.out; have := HOK.out.2.1.1; have := HOK.out.2.2.1; omega))
        have HN := Lib.hid (show mulL m a b = Op.nf m (Op.mul a b) from if_pos HME.out)
        rw [HME.out]
        go_enter Try.func15, Try.ntmps15
        go_wp2_with fail
        refine (both5_any m a b _ _ _ HU.out HV.out HLA.out HLB.out).mono ?_
        rintro e w1 ⟨rfl, rfl⟩
        rw [← HE.out]
        go_wp2_with fail
        refine (times5_any m a b _ _ _ HMB.out HU.out HV.out (by have := HLA.out; omega) (by have := HLB.out; omega)).mono ?_
        rintro e w2 ⟨x, n, c, rfl, hx, hfr, hg⟩
        have H := Lib.hid (And.intro hx (And.intro hfr hg))
        clear hx hfr hg
        go_wp2_with fail
        go_ret2
        exact ⟨_, _, _, rfl, by rw [HN.out]; exact H.out.1, H.out.2.1, H.out.2.2⟩
    · have HME := Lib.hid (show mulE m a b = 0 from by unfold mulE; rw [← HE.out, if_pos rfl]; exact if_neg (by have := HNA.out; have := HNB.out; have := HOK.out.2.1.1; have := HOK.out.2.2.1; omega))
      have HN := Lib.hid (show mulL m a b = Op.nf m (Op.mul a b) from if_pos HME.out)
      rw [HME.out]
      go_enter Try.func15, Try.ntmps15
      go_wp2_with fail
      refine (both5_any m a b _ _ _ HU.out HV.out HLA.out HLB.out).mono ?_
      rintro e w1 ⟨rfl, rfl⟩
      rw [← HE.out]
      go_wp2_with fail
      refine (times5_any m a b _ _ _ HMB.out HU.out HV.out (by have := HLA.out; omega) (by have := HLB.out; omega)).mono ?_
      rintro e w2 ⟨x, n, c, rfl, hx, hfr, hg⟩
      have H := Lib.hid (And.intro hx (And.intro hfr hg))
      clear hx hfr hg
      go_wp2_with fail
      go_ret2
      exact ⟨_, _, _, rfl, by rw [HN.out]; exact H.out.1, H.out.2.1, H.out.2.2⟩
  · have hf : (E != 0) = true := by simp [h0]
    have HME := Lib.hid (show mulE m a b = E from by unfold mulE; rw [← HE.out]; exact if_neg h0)
    have HN := Lib.hid (show mulL m a b = [] from if_neg (by rw [HME.out]; exact h0))
    rw [HME.out]
    clear h0
    go_enter Try.func15, Try.ntmps15
    go_wp2_with fail
    refine (both5_any m a b _ _ _ HU.out HV.out HLA.out HLB.out).mono ?_
    rintro e w1 ⟨rfl, rfl⟩
    rw [← HE.out]
    go_wp2_with fail
    go_ret2
    exact ⟨_, _, _, rfl, by rw [HN.out]; exact HasP.nil _, (fun p hp => by cases hp), Gr.refl w⟩

end Go.Proofs.Ytplfeeaocjgliaa
/- The law's own functions: same, large, lent, kept, spoil, awake. -/
namespace Op
set_option linter.unusedVariables false
end Op
namespace Go.Proofs.Ytplfeeaocjgliaa
open Go.RowKit
set_option linter.unusedVariables false

theorem lsame_any (a b : List Int) (u v : Value) (w : World) (hu : HasP w u a) (hv : HasP w v b) (hla : a.length ≤ 1000000) (hlb : b.length ≤ 1000000) :
    Calls Try.prog 16 #[u, v] w (fun e w' => e = .returned (.bool (decide (a = b))) ∧ Gr w w') := by
  have HU := Lib.hid hu
  have HV := Lib.hid hv
  clear hu hv
  obtain ⟨B, hB⟩ : ∃ B, B = decide (a = b) := ⟨_, rfl⟩
  rw [← hB]
  have HB := Lib.hid hB
  clear hB
  go_enter Try.func16, Try.ntmps16
  go_wp2_with fail
  refine (same_any a b _ _ _ HU.out HV.out hla hlb).mono ?_
  rintro e w1 ⟨rfl, hg⟩
  have HG := Lib.hid hg
  clear hg
  rw [← HB.out]
  go_wp2_with fail
  go_ret
  exact ⟨rfl, HG.out⟩

theorem three_hasP' (W : World) (x y z : Int) (g : Nat) (hg : g = W.heap.size) (hx : U32 [x, y, z]) : HasP (W.alloc (.cells #[.int .u32 x, .int .u32 y, .int .u32 z] 22)) (.slice (some ⟨g, 0, none⟩) 3 3) [x, y, z] := by
  subst hg
  refine ⟨hx, _, 3, rfl, Nat.le_refl _, by omega, fun i hi => ⟨_, 0, rfl, ?_⟩⟩
  have : i = 0 ∨ i = 1 ∨ i = 2 := by simp at hi; omega
  rcases this with rfl | rfl | rfl <;> simp [go_sem]
theorem u32_dec {l : List Int} (h : l.all (fun x => decide (0 ≤ x) && decide (x < 4294967296)) = true) : U32 l := fun x hx => by
  have := List.all_eq_true.1 h x hx
  simpa using this

end Go.Proofs.Ytplfeeaocjgliaa
/- The law PolyAdds. -/
namespace Go.Proofs.Ytplfeeaocjgliaa
open Go.RowKit
set_option linter.unusedVariables false

end Go.Proofs.Ytplfeeaocjgliaa
/- Gcd, of both sides; what is prime is a field. -/
namespace Go.Proofs.Ytplfeeaocjgliaa
open Go.RowKit
set_option linter.unusedVariables false

theorem pprime_pr (n : Nat) (w : World) (hn : n ≤ 4294967295) : Calls Try.prog 44 #[.int .u32 n] w (BoolPost (Ob.Pr n) w) :=
  (prime_any n w hn).mono fun _ _ ⟨r, he, hr, hg⟩ => ⟨r, he, hr.trans (prm_pr hn), hg⟩
theorem pprime_r (n : Nat) (w : World) (hn : n ≤ 4294967295) : Calls Try.prog 63 #[.int .u32 n] w (BoolPost (Ob.Pr n) w) :=
  (rprime_any n w hn).mono fun _ _ ⟨r, he, hr, hg⟩ => ⟨r, he, hr.trans ((prm_iff n).symm.trans (prm_pr hn)), hg⟩
theorem rprime5 (n : Nat) (w : World) (hn : n ≤ 4294967295) : Calls Try.prog 43 #[.int .u32 n] w (BoolPost (Ob.Pr n) w) := by
  go_enter Try.func43, Try.ntmps43
  go_wp2_with fail
  refine (pprime_r n _ hn).mono ?_
  rintro e w1 ⟨r, rfl, hr, hg⟩
  have H := Lib.hid (And.intro hr hg)
  clear hr hg
  go_wp2_with fail
  go_ret
  exact ⟨r, rfl, H.out.1, H.out.2⟩
/-- Modulo a prime each residue but 0 is a unit. -/
theorem fld_pr {p : Nat} (h : Ob.Pr p) : Op.Fld p := by
  intro u h0 h1
  obtain ⟨u', rfl⟩ := Int.eq_ofNat_of_zero_le (show 0 ≤ u from by omega)
  have hg : Nat.gcd u' p = 1 := by
    apply Classical.byContradiction
    intro hn
    have hd1 := Nat.gcd_dvd_left u' p
    have hd2 := Nat.gcd_dvd_right u' p
    have hle := Nat.le_of_dvd (by omega) hd1
    have hpos : 0 < Nat.gcd u' p := Nat.gcd_pos_of_pos_left p (by omega)
    exact h.2 (Nat.gcd u' p) (by omega) (by omega) hd2
  exact gcd_un (by have := h.1; omega) hg

/-- Result and error of Gcd. -/
def GcdR (p : Int) (a b g : List Int) (E : Int) : Prop :=
  (¬ Ob.Pr p.toNat ∧ E = 2 ∧ g = []) ∨ (Ob.Pr p.toNat ∧ E = checkE p [a, b] ∧ E ≠ 0 ∧ g = []) ∨ (Ob.Pr p.toNat ∧ checkE p [a, b] = 0 ∧ E = 0 ∧ Op.Gd p a b g ∧ Op.Nf p g)
theorem GcdR.unique {p : Int} {a b g h : List Int} {E F : Int} (hU : U32 a) (hU' : U32 b) (k : GcdR p a b g E) (l : GcdR p a b h F) : g = h ∧ E = F := by
  rcases k with ⟨h1, h2, h3⟩ | ⟨h1, h2, h3, h4⟩ | ⟨h1, h2, h3, h4, h5⟩ <;> rcases l with ⟨k1, k2, k3⟩ | ⟨k1, k2, k3, k4⟩ | ⟨k1, k2, k3, k4, k5⟩
  · exact ⟨h3.trans k3.symm, h2.trans k2.symm⟩
  · exact absurd k1 h1
  · exact absurd k1 h1
  · exact absurd h1 k1
  · exact ⟨h4.trans k4.symm, h2.trans k2.symm⟩
  · omega
  · exact absurd h1 k1
  · omega
  · have hc := (checkE_two hU hU').1 h2
    have hm := hc.1
    unfold okM at hm
    have hF := fld_pr h1
    rw [Int.toNat_of_nonneg (by omega)] at hF
    exact ⟨Op.Gd.unique hF (by omega) hc.2.2.2 h4 k4, h3.trans k3.symm⟩

set_option maxRecDepth 100000 in
set_option maxHeartbeats 2000000 in
theorem pGcd_any (m : Int) (a b : List Int) (u v : Value) (w : World) (hmr : 0 ≤ m ∧ m ≤ 4294967295) (hu : HasP w u a) (hv : HasP w v b) (hla : a.length ≤ 1000) (hlb : b.length ≤ 1000) :
    Calls Try.prog 68 #[.int .u32 m, u, v] w (NewE (GcdR m a b) w) := by
  obtain ⟨-, xa, ca, rfl, -, -, -⟩ := id hu
  obtain ⟨-, xb, cb, rfl, -, -, -⟩ := id hv
  obtain ⟨na, hna⟩ : ∃ na, na = a.length := ⟨_, rfl⟩
  obtain ⟨nb, hnb⟩ : ∃ nb, nb = b.length := ⟨_, rfl⟩
  rw [← hna] at hu ⊢
  rw [← hnb] at hv ⊢
  have HU := Lib.hid hu
  have HV := Lib.hid hv
  have HNA := Lib.hid hna
  have HNB := Lib.hid hnb
  have HLA := Lib.hid hla
  have HLB := Lib.hid hlb
  have HIFF := Lib.hid (checkE_two (m := m) hu.1 hv.1)
  obtain ⟨E, hE⟩ : ∃ E, E = checkE m [a, b] := ⟨_, rfl⟩
  try rw [← hE]
  have HE := Lib.hid hE
  have HLL := Lib.hid (show ∀ l ∈ [a, b], l.length ≤ 9223372036854775807 from fun l hl => by simp at hl; rcases hl with rfl | rfl <;> omega)
  obtain ⟨p, hp⟩ := Int.eq_ofNat_of_zero_le hmr.1
  have hpb : p ≤ 4294967295 := by omega
  have htn : m.toNat = p := by omega
  have HTN := Lib.hid htn
  subst hp
  clear hu hv hla hlb hna hnb hE hmr htn
  by_cases hpr : Ob.Pr p
  · have HPR := Lib.hid hpr
    have HPR2 := Lib.hid (show Ob.Pr ((p : Int)).toNat from by rw [HTN.out]; exact hpr)
    clear hpr
    by_cases h0 : E = 0
    · subst h0
      have HOK := Lib.hid (HIFF.out.1 HE.out.symm)
      have HM2 := Lib.hid (show 2 ≤ (p : Int) ∧ (p : Int) ≤ 2147483647 from HOK.out.1)
      have HMB := Lib.hid (show 1 ≤ (p : Int) ∧ (p : Int) ≤ 4294967295 from by have := HM2.out; omega)
      have HM0 := Lib.hid (show 0 < (p : Int) from by have := HM2.out; omega)
      have HF := Lib.hid (fld_pr HPR.out)
      go_enter Try.func68, Try.ntmps68
      go_wp2_with fail
      refine (pprime_pr p _ hpb).mono ?_
      rintro e wp ⟨r, rfl, hr, hg⟩
      have HGP := Lib.hid hg
      obtain rfl : r = true := by exact hr.2 HPR.out
      clear hr hg
      go_wp2_with fail
      refine (check_any p _ 2 _ [a, b] _ (ll_two (HU.out.later HGP.out) (HV.out.later HGP.out) _ rfl) (by omega) HLL.out).mono ?_
      rintro e w1 ⟨rfl, rfl⟩
      rw [← HE.out]
      go_wp2_with fail
      refine (common_any p a b _ _ _ HM2.out HF.out HOK.out.2.1.2 HOK.out.2.2.2 (HU.out.later (HGP.out.alloc _)) (HV.out.later (HGP.out.alloc _)) HLA.out HLB.out).mono ?_
      rintro e w2 ⟨x, n, c, g, rfl, hx, hgd, hnf, hfr, hg⟩
      have H := Lib.hid (And.intro hx (And.intro hgd (And.intro hnf (And.intro hfr hg))))
      clear hx hgd hnf hfr hg
      go_wp2_with fail
      go_ret2
      obtain ⟨hx, hgd, hnf, hfr, hg⟩ := H.out
      exact ⟨_, _, _, g, 0, rfl, hx, .inr (.inr ⟨HPR2.out, HE.out.symm, rfl, hgd, hnf⟩), (fun p hp => Nat.le_trans (HGP.out.alloc _).size (hfr p hp)), (HGP.out.alloc _).trans hg⟩
    · have hf : (E != 0) = true := by simp [h0]
      have H0 := Lib.hid h0
      clear h0
      go_enter Try.func68, Try.ntmps68
      go_wp2_with fail
      refine (pprime_pr p _ hpb).mono ?_
      rintro e wp ⟨r, rfl, hr, hg⟩
      have HGP := Lib.hid hg
      obtain rfl : r = true := by exact hr.2 HPR.out
      clear hr hg
      go_wp2_with fail
      refine (check_any p _ 2 _ [a, b] _ (ll_two (HU.out.later HGP.out) (HV.out.later HGP.out) _ rfl) (by omega) HLL.out).mono ?_
      rintro e w1 ⟨rfl, rfl⟩
      rw [← HE.out]
      go_wp2_with fail
      go_ret2
      exact ⟨_, _, _, [], E, rfl, HasP.nil _, .inr (.inl ⟨HPR2.out, HE.out, H0.out, rfl⟩), (fun p hp => by cases hp), HGP.out.alloc _⟩
  · have HPR := Lib.hid hpr
    have HPR2 := Lib.hid (show ¬ Ob.Pr ((p : Int)).toNat from by rw [HTN.out]; exact hpr)
    clear hpr
    go_enter Try.func68, Try.ntmps68
    go_wp2_with fail
    refine (pprime_pr p _ hpb).mono ?_
    rintro e wp ⟨r, rfl, hr, hg⟩
    have HGP := Lib.hid hg
    obtain rfl : r = false := by cases r with | false => rfl | true => exact absurd (hr.1 rfl) HPR.out
    clear hr hg
    go_wp2_with fail
    go_ret2
    exact ⟨_, _, _, [], 2, rfl, HasP.nil _, .inl ⟨HPR2.out, rfl, rfl⟩, (fun p hp => by cases hp), HGP.out⟩

end Go.Proofs.Ytplfeeaocjgliaa
/- The arguments of the laws: slices of numbers of 32 bits; the fields of a Case. -/
namespace Go.Proofs.Ytplfeeaocjgliaa
open Go.ChangeShapes Go.WideShapes Go.ChangeAt Go.RowKit Go.Joins Go.Deep
set_option linter.unusedVariables false

set_option maxRecDepth 100000 in
theorem own : ownKnob Try.prog.godebug = none := by kernel_rfl
theorem laidOut : laidOutB Try.prog = true := by kernel_rfl
end Go.Proofs.Ytplfeeaocjgliaa
