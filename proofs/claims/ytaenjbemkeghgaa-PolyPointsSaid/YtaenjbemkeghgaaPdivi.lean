/- divide. -/
import Derived.Test.YtaenjbemkeghgaaPdiv
namespace Go.Proofs.Ytaenjbemkeghgaa
open Go.RowKit
set_option linter.unusedVariables false

/-- Quotient and rest are returned, as new memory. -/
def DivP (m : Int) (a b : List Int) (w : World) (e : Ending) (w' : World) : Prop :=
  ∃ x1 n1 c1 x2 n2 c2 q r, e = .returned (.tuple #[.slice x1 n1 c1, .slice x2 n2 c2]) ∧ HasP w' (.slice x1 n1 c1) q ∧ HasP w' (.slice x2 n2 c2) r ∧ Op.Dv m a b q r ∧
    (∀ p, x1 = some p → w.heap.size ≤ p.block) ∧ (∀ p, x2 = some p → w.heap.size ≤ p.block) ∧ Gr w w'

set_option maxRecDepth 100000 in
set_option maxHeartbeats 1000000 in
theorem divide_short (m : Int) (a b : List Int) (u v : Value) (rc : Int) (w : World) (hm : 2 ≤ m ∧ m ≤ 2147483647) (ha : Op.Nf m a) (hu : HasP w u a) (hv : HasP w v b) (hla : a.length ≤ 100000) (hlt : a.length < b.length) :
    Calls Try.prog 53 #[.agg #[.int .u32 m, v, .int .u32 rc], u] w (DivP m a b w) := by
  have HA := Lib.hid ha
  have HU := Lib.hid hu
  have HB := Lib.hid (show a.length < b.length from hlt)
  obtain ⟨-, ad, cap, rfl, a1, a2, -⟩ := hu
  obtain ⟨-, bd, capb, rfl, b1, b2, -⟩ := hv
  obtain ⟨la, hla'⟩ : ∃ la, la = a.length := ⟨_, rfl⟩
  obtain ⟨lb, hlb'⟩ : ∃ lb, lb = b.length := ⟨_, rfl⟩
  rw [← hla'] at a1 hla hlt HU ⊢
  rw [← hlb'] at b1 hlt ⊢
  have HLA := Lib.hid hla'
  have hlen : ([] : List Int).length + a.length ≤ 1000000 := by have := HLA.out; simp; omega
  clear hla' hlb' ha hm
  go_enter Try.func53, Try.ntmps53
  go_wp2_with (at_builtin; refine wpList_app rfl (.tmp 8) (.tmp 9) rfl rfl (w.heap.size + 1) (.slice none 0 0) [] rfl (Own1.nil _ _) (.slice ad la cap) a rfl (HU.out.later (Gr.new w _)) hlen (by simp) ?_; intro v' w2 hown hgrow; have HO := Lib.hid hown; have hGB : Gr (w.alloc (.cells #[.int .u32 m, .slice bd lb capb, .int .u32 rc] 56)) w2 := grown_own (Gr.refl _) (Own1.nil _ (w.heap.size + 1)) hgrow (by simp); have hc0 := hGB.keeps (p := ⟨w.heap.size, 0, none⟩) (v := .int .u32 m) (by simp [go_sem]); have hc1 := hGB.keeps (p := ⟨w.heap.size, 1, none⟩) (v := .slice bd lb capb) (by simp [go_sem]); have hc2 := hGB.keeps (p := ⟨w.heap.size, 2, none⟩) (v := .int .u32 rc) (by simp [go_sem]); have HG := Lib.hid ((Gr.new w _).trans hGB); clear hown hgrow hGB)
  go_ret2
  obtain ⟨ar, cr, rfl, hr1, hr2⟩ := HO.out.form
  exact ⟨none, 0, 0, ar, _, cr, [], a, rfl, HasP.nil _, by have h := HO.out.hasP; rw [List.nil_append] at h ⊢; exact h, ⟨Op.Nf.nil m, HA.out, HB.out, Op.Cg.of (fun i => by simp)⟩, (fun p hp => by cases hp), (fun p hp => Nat.le_of_succ_le (HO.out.fresh rfl p hp)), HG.out⟩

theorem cf_put_one {q : List Int} {j : Nat} {t : Int} (hj : j < q.length) (h0 : Op.cf q j = 0) (i : Nat) : Op.cf (put q j [t]) i = Op.cf (Op.add q (Op.sh j [t])) i := by
  have hl : ([t] : List Int).length = 1 := rfl
  rw [cf_put (by rw [hl]; omega), Op.cf_add, Op.cf_sh, hl]
  by_cases h1 : i < j
  · rw [if_neg (by omega), if_pos h1]; omega
  · by_cases h2 : i = j
    · subst h2
      rw [if_pos (by omega), if_neg h1, Nat.sub_self, h0]; simp
    · rw [if_neg (by omega), if_neg h1, Op.cf_out (l := [t]) (by rw [hl]; omega)]; omega
theorem mul_put_one {q b : List Int} {j : Nat} {t : Int} (hj : j < q.length) (h0 : Op.cf q j = 0) (i : Nat) : Op.cf (Op.mul (put q j [t]) b) i = Op.cf (Op.mul q b) i + Op.cf (Op.sh j (Op.sc t b)) i := by
  rw [Op.mul_congr (cf_put_one hj h0) (fun _ => rfl), Op.mul_add_left, Op.mul_sh_left]
  congr 1
  rw [Op.cf_sh, Op.cf_sh]
  split
  · rfl
  · rw [Op.cf_sc]
    exact Int.sub_eq_zero.1 (Int.zero_dvd.1 (by have := Op.cg_scn' 0 t b (i - j); rwa [Op.cf_sc] at this))
/-- One step of the division. -/
theorem div_step {m t x rc kk : Int} {a b q r pre : List Int} {j : Nat} (hm : 2 ≤ m) (hj : j < q.length) (h0 : Op.cf q j = 0) (hb : 0 < b.length) (hfit : j + b.length ≤ r.length)
    (hx : x = Op.cf r (j + (b.length - 1))) (ht : t = x * rc % m) (hrc : m ∣ Op.ld b * rc - 1) (hkk : kk = (m - 1) * t % m) (hpl : pre.length = b.length) (hpc : ∀ i, i < b.length → Op.cf pre i = (Op.cf (r.drop j) i + kk * Op.cf b i) % m)
    (hr0 : ∀ i, j + 1 + (b.length - 1) ≤ i → Op.cf r i = 0) (hcg : Op.Cg m a (Op.add (Op.mul q b) r)) :
    (∀ i, j + (b.length - 1) ≤ i → Op.cf (put r j pre) i = 0) ∧ Op.Cg m a (Op.add (Op.mul (put q j [t]) b) (put r j pre)) := by
  have hk1 : m ∣ kk + t := by
    rw [hkk]
    have h1 := Op.dvd_mod m ((m - 1) * t)
    have e : (m - 1) * t % m + t = ((m - 1) * t % m - (m - 1) * t) + m * t := by rw [Int.sub_mul]; omega
    rw [e]; exact Int.dvd_add h1 (Int.dvd_mul_right m t)
  have hk2 : m ∣ t - x * rc := by rw [ht]; exact Op.dvd_mod m (x * rc)
  constructor
  · intro i hi
    rw [cf_put (by rw [hpl]; exact hfit)]
    by_cases h1 : i = j + (b.length - 1)
    · subst h1
      rw [if_pos (by rw [hpl]; omega), show j + (b.length - 1) - j = b.length - 1 from by omega, hpc _ (by omega), Op.cf_drop, ← hx]
      show (x + kk * Op.ld b) % m = 0
      apply Int.emod_eq_zero_of_dvd
      have e : x + kk * Op.ld b = (kk + t) * Op.ld b - (t - x * rc) * Op.ld b - x * (Op.ld b * rc - 1) := by
        rw [Int.add_mul, Int.sub_mul, Int.mul_sub, Int.mul_assoc, Int.mul_comm rc (Op.ld b)]; omega
      rw [e]
      exact Int.dvd_sub (Int.dvd_sub (Int.dvd_mul_of_dvd_left hk1) (Int.dvd_mul_of_dvd_left hk2)) (Int.dvd_mul_of_dvd_right hrc)
    · rw [if_neg (by rw [hpl]; omega)]; exact hr0 i (by omega)
  · intro i
    have h2 := hcg i
    rw [Op.cf_add] at h2
    rw [Op.cf_add, mul_put_one hj h0, cf_put (by rw [hpl]; exact hfit), Op.cf_sh, hpl]
    by_cases h1 : j ≤ i ∧ i < j + b.length
    · rw [if_neg (by omega), if_pos h1, hpc (i - j) (by omega), Op.cf_drop, show j + (i - j) = i from by omega, Op.cf_sc]
      have h3 := Op.dvd_mod m (Op.cf r i + kk * Op.cf b (i - j))
      have e : Op.cf a i - (Op.cf (Op.mul q b) i + t * Op.cf b (i - j) + (Op.cf r i + kk * Op.cf b (i - j)) % m) = (Op.cf a i - (Op.cf (Op.mul q b) i + Op.cf r i)) - ((Op.cf r i + kk * Op.cf b (i - j)) % m - (Op.cf r i + kk * Op.cf b (i - j))) - (kk + t) * Op.cf b (i - j) := by
        rw [Int.add_mul]; omega
      rw [e]
      exact Int.dvd_sub (Int.dvd_sub h2 h3) (Int.dvd_mul_of_dvd_left hk1)
    · rw [if_neg h1]
      have e : (if i < j then (0 : Int) else Op.cf (Op.sc t b) (i - j)) = 0 := by
        split
        · rfl
        · rw [Op.cf_out (by rw [Op.sc_len]; omega)]
      rw [e, Int.add_zero]; exact h2
theorem Row.part1 {W : World} {g o n : Nat} {l : List Int} (h : Row W g l) (ho : o + n ≤ l.length) : ∃ cur, Rw W g cur ∧ o + n ≤ cur.size := by
  obtain ⟨_, cur, h1, h2, _⟩ := h
  exact ⟨cur, h1, by omega⟩
theorem Row.far {W W' : World} {g g' o : Nat} {l pre : List Int} (h : Row W g' l) (hu : Upd g o pre W W') (hne : g' ≠ g) : Row W' g' l := by
  obtain ⟨h0, cur, h1, h2⟩ := h
  exact ⟨h0, cur, by show W'.heap[g']? = _; rw [hu.block g' hne]; exact h1, h2⟩

/-- The quotient has no zero at its end. -/
theorem quo_top {m : Int} {a b q r : List Int} (hm : 0 < m) (ha : Op.Nf m a) (hb : 0 < b.length) (hl : q.length + (b.length - 1) = a.length) (hq : 1 ≤ q.length) (hr : ∀ i, b.length - 1 ≤ i → Op.cf r i = 0) (h : Op.Cg m a (Op.add (Op.mul q b) r)) : Op.tz q = q := by
  apply Op.tz_id
  intro hne h0
  have ht := Op.top_mul q b hne (by intro e; rw [e] at hb; simp at hb)
  have h1 := h (q.length - 1 + (b.length - 1))
  rw [Op.cf_add, ht, hr _ (by omega)] at h1
  have e0 : Op.ld q = 0 := h0
  rw [e0, Int.zero_mul, Int.add_zero, Int.sub_zero] at h1
  have e1 : q.length - 1 + (b.length - 1) = a.length - 1 := by omega
  rw [e1] at h1
  have h2 := Op.tz_last ha.2 (by intro e; rw [e, List.length_nil] at hl; omega)
  have h3 := Op.rs_cf hm ha.1 (a.length - 1)
  have h4 := Int.le_of_dvd (by omega) h1
  omega
/-- What the loop of divide knows: k elements of the quotient are still to be found. -/
def DivI (m : Int) (a b : List Int) (la lb n gq gr : Nat) (k : Nat) (q r : List Int) (W : World) : Prop :=
  k ≤ n ∧ Row W gq q ∧ q.length = n ∧ Row W gr r ∧ r.length = la ∧ Op.Rs m q ∧ Op.Rs m r ∧ (∀ j, j < k → Op.cf q j = 0) ∧ (∀ j, k + (lb - 1) ≤ j → Op.cf r j = 0) ∧ Op.Cg m a (Op.add (Op.mul q b) r)

set_option maxRecDepth 100000 in
set_option maxHeartbeats 2000000 in
theorem divide_long (m : Int) (a b : List Int) (u v : Value) (rc : Int) (w : World) (hm : 2 ≤ m ∧ m ≤ 2147483647) (ha : Op.Nf m a) (hb : Op.Rs m b) (hrc : 0 ≤ rc ∧ rc < m) (hrc2 : m ∣ Op.ld b * rc - 1) (hu : HasP w u a) (hv : HasP w v b) (hla : a.length ≤ 100000) (hlt : b.length ≤ a.length) (hne : 0 < b.length) :
    Calls Try.prog 53 #[.agg #[.int .u32 m, v, .int .u32 rc], u] w (DivP m a b w) := by
  have HA := Lib.hid ha
  have HB := Lib.hid hb
  have HU := Lib.hid hu
  have HV := Lib.hid hv
  have HRC := Lib.hid hrc2
  obtain ⟨da, ad, cap, rfl, a1, a2, -⟩ := hu
  obtain ⟨db, bd, capb, rfl, b1, b2, -⟩ := hv
  obtain ⟨la, hla'⟩ : ∃ la, la = a.length := ⟨_, rfl⟩
  obtain ⟨lb, hlb'⟩ : ∃ lb, lb = b.length := ⟨_, rfl⟩
  rw [← hla'] at a1 hla hlt HU ⊢
  rw [← hlb'] at b1 hlt hne HV ⊢
  have HLA := Lib.hid hla'
  have HLB := Lib.hid hlb'
  have HDB := Lib.hid db
  obtain ⟨hm1, hm2⟩ := hm
  obtain ⟨hrc0, hrc1⟩ := hrc
  have hlen : ([] : List Int).length + a.length ≤ 1000000 := by have := HLA.out; simp; omega
  have hp0 : (0 : Int) < (lb : Int) := by omega
  have hlt' : ¬ (la : Int) < (lb : Int) := by omega
  obtain ⟨n, hn⟩ : ∃ n, n = la - (lb - 1) := ⟨_, rfl⟩
  have hn0 : 1 ≤ n := by omega
  have hnl : n + (lb - 1) = la := by omega
  have hmk := mk_row n ((la : Int) - ((lb : Int) - 1)) (by omega) (by omega)
  clear hla' hlb' ha hb hrc2 hn da db
  go_enter Try.func53, Try.ntmps53
  go_wp2_with (at_builtin; refine wpList_app rfl (.tmp 8) (.tmp 9) rfl rfl (w.heap.size + 1) (.slice none 0 0) [] rfl (Own1.nil _ _) (.slice ad la cap) a rfl (HU.out.later (Gr.new w _)) hlen (by simp) ?_; intro v' w2 hown hgrow; have HO := Lib.hid hown; have hGB : Gr (w.alloc (.cells #[.int .u32 m, .slice bd lb capb, .int .u32 rc] 56)) w2 := grown_own (Gr.refl _) (Own1.nil _ (w.heap.size + 1)) hgrow (by simp); have hc0 := hGB.keeps (p := ⟨w.heap.size, 0, none⟩) (v := .int .u32 m) (by simp [go_sem]); have hc1 := hGB.keeps (p := ⟨w.heap.size, 1, none⟩) (v := .slice bd lb capb) (by simp [go_sem]); have hc2 := hGB.keeps (p := ⟨w.heap.size, 2, none⟩) (v := .int .u32 rc) (by simp [go_sem]); have hsz2 := hGB.size; rw [World.size_alloc] at hsz2; have hnb1 : ¬ (w.heap.size = w2.heap.size) := (by omega); have hnb2 : ¬ (w2.heap.size = w.heap.size) := (by omega); have HG := Lib.hid ((Gr.new w _).trans hGB); clear hown hgrow hGB)
  obtain ⟨gr, cr, hv', hgr, hcr1, hcr2, hrow⟩ := HO.out.row (by rw [List.nil_append, ← HLA.out]; omega)
  have hgl := hrow.lt
  rw [List.nil_append] at hv' hcr1 hrow
  rw [← HLA.out] at hv' hcr1
  subst hv'
  have HROW := Lib.hid (show Row (w2.alloc (.cells (zrow n) 22)) gr a from hrow.later (Gr.new _ _))
  have hc0' : (w2.alloc (.cells (zrow n) 22)).cell? ⟨w.heap.size, 0, none⟩ = some (.int .u32 m) := (Gr.new _ _).keeps hc0
  have hc1' : (w2.alloc (.cells (zrow n) 22)).cell? ⟨w.heap.size, 1, none⟩ = some (.slice bd lb capb) := (Gr.new _ _).keeps hc1
  have hc2' : (w2.alloc (.cells (zrow n) 22)).cell? ⟨w.heap.size, 2, none⟩ = some (.int .u32 rc) := (Gr.new _ _).keeps hc2
  have HB3 := Lib.hid (And.intro hc0' (And.intro hc1' (And.intro hc2' (HG.out.alloc (.cells (zrow n) 22)))))
  have hq1 : ¬ (gr = w2.heap.size) := by omega
  have hq2 : ¬ (w2.heap.size = gr) := by omega
  obtain ⟨gq, hgq⟩ : ∃ gq, gq = w2.heap.size := ⟨_, rfl⟩
  have HZ := Lib.hid (show Row (w2.alloc (.cells (zrow n) 22)) gq (List.replicate n 0) from by rw [hgq]; exact Row.zeros w2 n)
  rw [← hgq] at hq1 hq2 hnb1 hnb2 hsz2 hgl ⊢
  have HGQ := Lib.hid hgq
  clear hrow hc0 hc1 hc2 hc0' hc1' hc2' hmk hgq HO
  have hsz3 : w.heap.size ≤ gq := by omega
  go_loopw [7] (fun t wr => ∃ k q r, t = .int .i64 ((k : Nat) - 1 : Int) ∧ DivI m a b la lb n gq gr k q r wr ∧ (wr.cell? ⟨w.heap.size, 0, none⟩ = some (.int .u32 m) ∧ wr.cell? ⟨w.heap.size, 1, none⟩ = some (.slice bd lb capb) ∧ wr.cell? ⟨w.heap.size, 2, none⟩ = some (.int .u32 rc) ∧ Gr w wr)) (fun t _ => (intOf t + 1).toNat)
  case atStart => exact ⟨n, List.replicate n 0, a, rfl, ⟨Nat.le_refl _, HZ.out, by simp, HROW.out, HLA.out.symm, (fun x hx => by rw [List.eq_of_mem_replicate hx]; omega), HA.out.1, (fun j _ => cf_rep n j), (fun j hj => Op.cf_out (by have := HLA.out; omega)), Op.Cg.of (fun i => by
      have h : ∀ i, Op.cf (List.replicate n 0) i = Op.cf [] i := fun i => by rw [cf_rep, Op.cf_nil]
      rw [Op.cf_add, Op.mul_congr h (fun _ => rfl), Op.cf_mul_nil, Int.zero_add])⟩, HB3.out⟩
  case round =>
    obtain ⟨k, q, r, rfl, ⟨hk, hrq, hql, hrr, hrl, hsq, hsr, hq0, hr0, hcg⟩, hb0, hb1, hb2, hg⟩ := hrel
    have HRQ := Lib.hid hrq
    have HQL := Lib.hid hql
    have HRR := Lib.hid hrr
    have HRL := Lib.hid hrl
    have HSQ := Lib.hid hsq
    have HSR := Lib.hid hsr
    have HQ0 := Lib.hid hq0
    have HR0 := Lib.hid hr0
    have HCG := Lib.hid hcg
    have HGW := Lib.hid hg
    clear hrq hql hrr hrl hsq hsr hq0 hr0 hcg hg
    rcases k with _ | j
    · have HREST := Lib.hid ((HRR.out.hasP (cap := cr) (by rw [HRL.out]; exact hcr1) hcr2).take (k := lb - 1) (by rw [HRL.out]; omega))
      have e1 : ((lb : Int) - 1).toNat = lb - 1 := by omega
      go_wp2_with fail
      refine (trimmed_any _ _ _ _ _ HREST.out).mono ?_
      rintro e w4 ⟨rfl, rfl⟩
      go_wp2_with fail
      go_ret2
      have HQ := HRQ.out.hasP (cap := n) (by rw [HQL.out]; omega) (by omega)
      rw [HQL.out] at HQ
      have hqt : Op.tz q = q := quo_top (by omega) HA.out (by rw [← HLB.out]; exact hne) (by rw [HQL.out, ← HLB.out, ← HLA.out]; exact hnl) (by rw [HQL.out]; exact hn0) (fun i hi => HR0.out i (by have := HLB.out; omega)) HCG.out
      exact ⟨_, _, _, _, _, _, q, Op.tz (r.take (lb - 1)), rfl, HQ, HREST.out.tz, ⟨⟨HSQ.out, hqt⟩, ⟨fun x hx => HSR.out x (List.mem_of_mem_take (Op.tz_mem hx)), Op.tz_tz _⟩, (by have h1 := Op.tz_len (r.take (lb - 1)); rw [List.length_take] at h1; have := HLB.out; omega), HCG.out.trans ((Op.Cg.refl m _).add (Op.Cg.of (fun i => by
        rw [Op.cf_tz, Op.cf_take]
        split
        · rfl
        · exact HR0.out i (by omega))))⟩, (fun p hp => by cases hp; exact hsz3), (fun p hp => by cases hp; exact Nat.le_of_succ_le hgr), HGW.out⟩
    · have i2 : ((j + 1 : Nat) : Int) - 1 = (j : Int) := by omega
      rw [i2]
      have i3 : IntKind.i64.wrap ((j : Int) + ((lb : Int) - 1)) = (j : Int) + ((lb : Int) - 1) := IntWalk.i64_in _ (by omega)
      have i4 : ((j : Int) + ((lb : Int) - 1)).toNat = j + (lb - 1) := by omega
      have i5 : (0 : Int) ≤ (j : Int) + ((lb : Int) - 1) := by omega
      have i6 : (j : Int) + ((lb : Int) - 1) < (la : Int) := by omega
      have i7 : (j : Int) < (n : Int) := by omega
      have hct := HRR.out.cell (j := j + (lb - 1)) (by rw [HRL.out]; omega)
      have hcq := HRQ.out.cell (j := j) (by rw [HQL.out]; omega)
      have hfq := HRQ.out.frozen j
      have hxb := Op.rs_cf (show 0 < m by omega) HSR.out (j + (lb - 1))
      obtain ⟨x, hx⟩ : ∃ x, x = Op.cf r (j + (lb - 1)) := ⟨_, rfl⟩
      rw [← hx] at hct hxb
      rw [HQ0.out j (by omega)] at hcq
      have HX := Lib.hid hx
      have HXB := Lib.hid hxb
      clear hx hxb
      go_wp2_with fail
      go_region_held3 (fun wz => wz.cell? ⟨w.heap.size, 0, none⟩ = some (.int .u32 m) ∧ wz.cell? ⟨w.heap.size, 2, none⟩ = some (.int .u32 rc) ∧ wz.cell? ⟨gr, j + (lb - 1), none⟩ = some (.int .u32 x)) (go_keep)
        (first | (go_at_call 69; refine (plus_any m 0 x rc _ (by omega) (by omega) (by have := HXB.out; omega) (by omega)).mono ?_; rintro e w' ⟨rfl, rfl⟩))
      obtain ⟨t, ht⟩ : ∃ t, t = x * rc % m := ⟨_, rfl⟩
      have ht0 : 0 ≤ t := by rw [ht]; exact Int.emod_nonneg _ (by omega)
      have ht1 : t < m := by rw [ht]; exact Int.emod_lt_of_pos _ (by omega)
      rw [← ht]
      have HT := Lib.hid ht
      obtain ⟨W1, hW1⟩ : ∃ W1, W1 = (wr.setCell ⟨gq, j, none⟩ (.int .u32 t)).drew := ⟨_, rfl⟩
      have hU1 : Upd gq j [t] wr W1 := by
        rw [hW1]
        obtain ⟨_, cur, h1, h2, _⟩ := HRQ.out
        have h := (Upd.start (o := j) h1 (by rw [HQL.out] at h2; omega)).step (k := 0) (d := t) rfl (v := .int .u32 0) (by rw [Nat.add_zero]; exact hcq)
        rw [Nat.add_zero] at h
        exact h.drewN 1
      rw [← hW1]
      have HU1 := Lib.hid hU1
      have HRQ1 := Lib.hid (show Row W1 gq (put q j [t]) from HRQ.out.upd hU1 (U32.one (by omega)) (by rw [HQL.out]; simp; omega))
      have HRR1 := Lib.hid (show Row W1 gr r from HRR.out.far hU1 hq1)
      have hb0' : W1.cell? ⟨w.heap.size, 0, none⟩ = some (.int .u32 m) := (hU1.cell_other (p := ⟨w.heap.size, 0, none⟩) hnb1).trans hb0
      have hb1' : W1.cell? ⟨w.heap.size, 1, none⟩ = some (.slice bd lb capb) := (hU1.cell_other (p := ⟨w.heap.size, 1, none⟩) hnb1).trans hb1
      have hb2' : W1.cell? ⟨w.heap.size, 2, none⟩ = some (.int .u32 rc) := (hU1.cell_other (p := ⟨w.heap.size, 2, none⟩) hnb1).trans hb2
      have HG1 := Lib.hid (show Gr w W1 from hU1.gr HGW.out hsz3)
      have hct1 : W1.cell? ⟨gq, j, none⟩ = some (.int .u32 t) := by
        have h := HRQ1.out.cell (j := j) (by rw [put_len (by rw [HQL.out]; simp; omega), HQL.out]; omega)
        rw [cf_put (by rw [HQL.out]; simp; omega), if_pos (by simp), Nat.sub_self] at h
        exact h
      clear hW1 hU1 ht hcq hfq hct hb0 hb1 hb2
      have hgr0 : ¬ (w.heap.size = gr) := by omega
      have hfr := from_eq (some ⟨gr, 0, none⟩) la cr j (by omega)
      rw [if_neg (by omega), show (some (⟨gr, 0, none⟩ : Addr)).map (·.add j) = some ⟨gr, j, none⟩ from congrArg some ((addr_add rfl _ rfl).trans (by rw [Nat.zero_add]))] at hfr
      obtain ⟨kk, hkk⟩ : ∃ kk, kk = (0 + (m - 1) * t) % m := ⟨_, rfl⟩
      have hk0 : 0 ≤ kk ∧ kk < m := by rw [hkk]; exact ⟨Int.emod_nonneg _ (by omega), Int.emod_lt_of_pos _ (by omega)⟩
      have HKK := Lib.hid hkk
      have HK0 := Lib.hid hk0
      clear hkk hk0
      have HMB := Lib.hid (show 1 ≤ m ∧ m ≤ 4294967295 from by omega)
      have HKB := Lib.hid (show 0 ≤ kk ∧ kk < 4294967296 from by have := HK0.out; omega)
      have HQ1 := Lib.hid (show ∃ cur, Rw W1.drew gr cur ∧ j + (la - j) ≤ cur.size from HRR1.out.part1 (by rw [HRL.out]; omega))
      have HQ2 := Lib.hid (show U32 (r.drop j) from HRR1.out.1.drop j)
      have HQ3 := Lib.hid (show ∀ i, i < la - j → W1.drew.cell? ⟨gr, j + i, none⟩ = some (.int .u32 (Op.cf (r.drop j) i)) from fun i hi => by rw [Op.cf_drop]; exact HRR1.out.cell (by rw [HRL.out]; omega))
      have HQ4 := Lib.hid (show la - j ≤ cr - j from by omega)
      have HQ5 := Lib.hid (show cr - j ≤ 9223372036854775807 from by omega)
      have HQ6 := Lib.hid (show HasP W1.drew (.slice bd lb capb) b from HV.out.later (HG1.out.drewN 1))
      have HQ7 := Lib.hid (show 0 < b.length → (Value.slice bd lb capb).ownBlock ≠ some gr from fun h0 e => by
        obtain ⟨bb, e2, hb3⟩ := HV.out.block h0
        rw [e2] at e
        have := Option.some.inj e
        omega)
      have HQ8 := Lib.hid (show b.length ≤ la - j from by rw [← HLB.out]; omega)
      go_wp2_with fail
      go_region_held3 (fun wz => wz.cell? ⟨w.heap.size, 0, none⟩ = some (.int .u32 m) ∧ wz.cell? ⟨w.heap.size, 1, none⟩ = some (.slice bd lb capb) ∧ wz.cell? ⟨gq, j, none⟩ = some (.int .u32 t)) (go_keep)
        (first
          | (go_at_call 70; refine (less_any m 0 t _ (by omega) (by omega) (by omega)).mono ?_; rintro e w' ⟨rfl, rfl⟩; rw [← HKK.out])
          | (go_at_call 67; refine (add_any gr j (la - j) (cr - j) m kk (r.drop j) b _ _ HMB.out HKB.out (HQ1.out) (HQ2.out) (HQ3.out) HQ4.out HQ5.out (HQ6.out) (HQ7.out) HQ8.out).mono ?_; rintro e w3 ⟨pre, rfl, hp1, hp2, hp3, hup⟩; have HP1 := Lib.hid hp1; have HP2 := Lib.hid hp2; have HP3 := Lib.hid hp3; have HUP := Lib.hid (show Upd gr j pre W1 w3 from ⟨hup.os, hup.tape, hup.output, hup.size, hup.block, hup.row⟩); have hb0 := (HUP.out.cell_other (p := ⟨w.heap.size, 0, none⟩) hgr0).trans hb0'; have hb1 := (HUP.out.cell_other (p := ⟨w.heap.size, 1, none⟩) hgr0).trans hb1'; have hcq := (HUP.out.cell_other (p := ⟨gq, j, none⟩) hq2).trans hct1; clear hp1 hp2 hp3 hup))
      have hstep := div_step (by omega) (by rw [HQL.out]; omega) (HQ0.out j (by omega)) (by rw [← HLB.out]; exact hne) (by rw [← HLB.out, HRL.out]; omega) (by rw [← HLB.out]; exact HX.out) HT.out HRC.out (show kk = (m - 1) * t % m from by rw [HKK.out, Int.zero_add]) HP1.out HP2.out (fun i hi => HR0.out i (by have := HLB.out; omega)) HCG.out
      have hfit : j + pre.length ≤ r.length := by rw [HP1.out, ← HLB.out, HRL.out]; omega
      have HI := Lib.hid (show DivI m a b la lb n gq gr j (put q j [t]) (put r j pre) w3 from ⟨by omega, HRQ1.out.far HUP.out hq2, (by rw [put_len (by rw [HQL.out]; simp; omega)]; exact HQL.out), HRR1.out.upd HUP.out HP3.out hfit, (by rw [put_len hfit]; exact HRL.out), Op.rs_put HSQ.out (fun y hy => by simp at hy; subst hy; omega), Op.rs_put HSR.out (Op.rs_mod (by omega) (fun i hi => HP2.out i (by have := HP1.out; omega))), (fun i hi => by rw [cf_put (by rw [HQL.out]; simp; omega), if_neg (by omega)]; exact HQ0.out i (by omega)), (fun i hi => hstep.1 i (by have := HLB.out; omega)), hstep.2⟩)
      have HG3 := Lib.hid (show Gr w w3 from HUP.out.gr HG1.out (by omega))
      have HB2 := Lib.hid (show w3.cell? ⟨w.heap.size, 2, none⟩ = some (.int .u32 rc) from (HUP.out.cell_other (p := ⟨w.heap.size, 2, none⟩) hgr0).trans hb2')
      clear hstep hfit
      go_wp2_with fail
      go_roundw
      case rel => exact ⟨j, _, _, rfl, HI.out, hb0, hb1, HB2.out, HG3.out⟩
      case measure => simp [intOf]
end Go.Proofs.Ytaenjbemkeghgaa
