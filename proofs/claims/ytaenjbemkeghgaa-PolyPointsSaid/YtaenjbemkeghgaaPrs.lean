/- The reference: split. -/
import Derived.Test.YtaenjbemkeghgaaPrc
namespace Go.Proofs.Ytaenjbemkeghgaa
open Go.RowKit
set_option linter.unusedVariables false

theorem mul_power (n : Nat) (c : Int) (b : List Int) (i : Nat) : Op.cf (Op.mul (Op.sh n [c]) b) i = Op.cf (Op.sh n (Op.sc c b)) i := by
  rw [Op.mul_sh_left, Op.cf_sh, Op.cf_sh]
  split
  · rfl
  · rw [Op.cf_sc]
    exact Int.sub_eq_zero.1 (Int.zero_dvd.1 (by have := Op.cg_scn' 0 c b (i - n); rwa [Op.cf_sc] at this))
/-- One step of the division of the reference. -/
theorem split_step {m c rc : Int} {a b q r r' : List Int} {n : Nat} (hm : 2 ≤ m) (hr : Op.Nf m r) (hb : 0 < b.length) (hn : n + b.length = r.length) (hq : n < q.length) (h0 : Op.cf q n = 0)
    (hc : c = Op.ld r * rc % m) (hrc : m ∣ Op.ld b * rc - 1) (hr' : r' = Op.nf m (Op.add r (Op.sc (-1) (Op.nf m (Op.mul (Op.sh n [c]) b))))) (hcg : Op.Cg m a (Op.add (Op.mul q b) r)) :
    Op.Nf m r' ∧ r'.length < r.length ∧ Op.Cg m a (Op.add (Op.mul (put q n [c]) b) r') := by
  have hN : Op.Nf m r' := by rw [hr']; exact Op.nf_nf (by omega) _
  have hcgr : Op.Cg m r' (Op.add r (Op.sc (-1) (Op.sh n (Op.sc c b)))) := by
    rw [hr']
    exact (Op.nf_cg m _).trans ((Op.Cg.refl m r).add (Op.Cg.sc (-1) ((Op.nf_cg m _).trans (Op.Cg.of (mul_power n c b)))))
  refine ⟨hN, ?_, fun i => ?_⟩
  · have hle : r'.length ≤ r.length - 1 := by
      apply Op.len_deg hN.2
      intro i hi
      have h1 := hcgr i
      rw [Op.cf_add, Op.cf_sc, Op.cf_sh, if_neg (by omega), Op.cf_sc] at h1
      have hz : m ∣ Op.cf r i + -1 * (c * Op.cf b (i - n)) := by
        by_cases he : i = r.length - 1
        · subst he
          have e1 : r.length - 1 - n = b.length - 1 := by omega
          rw [e1]
          show m ∣ Op.ld r + -1 * (c * Op.ld b)
          have h2 : m ∣ c - Op.ld r * rc := by rw [hc]; exact Op.dvd_mod m _
          have e2 : Op.ld r + -1 * (c * Op.ld b) = (Op.ld r * rc - c) * Op.ld b - Op.ld r * (Op.ld b * rc - 1) := by
            rw [Int.sub_mul, Int.mul_sub, Int.mul_assoc, Int.mul_comm rc (Op.ld b)]; omega
          have h2' : m ∣ Op.ld r * rc - c := by
            have e : Op.ld r * rc - c = -(c - Op.ld r * rc) := by omega
            rw [e]; exact Int.dvd_neg.2 h2
          rw [e2]
          exact Int.dvd_sub (Int.dvd_mul_of_dvd_left h2') (Int.dvd_mul_of_dvd_right hrc)
        · rw [Op.cf_out (l := r) (by omega), Op.cf_out (l := b) (by omega)]
          exact ⟨0, by omega⟩
      have h3 : m ∣ Op.cf r' i := by
        have e : Op.cf r' i = (Op.cf r' i - (Op.cf r i + -1 * (c * Op.cf b (i - n)))) + (Op.cf r i + -1 * (c * Op.cf b (i - n))) := by omega
        rw [e]; exact Int.dvd_add h1 hz
      have h4 := Op.rs_cf (show 0 < m by omega) hN.1 i
      exact Op.dvd_small (by rw [Int.sub_zero]; exact h3) h4 ⟨Int.le_refl _, by omega⟩
    omega
  · have h1 := hcgr i
    have h2 := hcg i
    rw [Op.cf_add] at h2
    rw [Op.cf_add, Op.cf_sc] at h1
    rw [Op.cf_add, mul_put_one hq h0]
    have e : Op.cf a i - (Op.cf (Op.mul q b) i + Op.cf (Op.sh n (Op.sc c b)) i + Op.cf r' i) = (Op.cf a i - (Op.cf (Op.mul q b) i + Op.cf r i)) - (Op.cf r' i - (Op.cf r i + -1 * Op.cf (Op.sh n (Op.sc c b)) i)) := by omega
    rw [e]; exact Int.dvd_sub h2 h1
theorem Op.ld_eq {l : List Int} {n : Nat} (h : n = l.length) : Op.cf l (n - 1) = Op.ld l := by subst h; rfl

set_option maxRecDepth 100000 in
set_option maxHeartbeats 2000000 in
theorem split5_any (m rc : Int) (a b : List Int) (u v : Value) (w : World) (hd : DvsOK m rc b) (ha : Op.Nf m a) (hu : HasP w u a) (hv : HasP w v b) (hla : a.length ≤ 10000) (hlb : b.length ≤ 10000) :
    Calls Try.prog 55 #[.int .u32 m, u, v, .int .u32 rc] w (DivP m a b w) := by
  have HD := Lib.hid hd
  have HA := Lib.hid ha
  have HU := Lib.hid hu
  have HV := Lib.hid hv
  obtain ⟨-, ad, cap, rfl, a1, a2, -⟩ := hu
  obtain ⟨-, bd, capb, rfl, b1, b2, -⟩ := hv
  obtain ⟨la, hla'⟩ : ∃ la, la = a.length := ⟨_, rfl⟩
  obtain ⟨lb, hlb'⟩ : ∃ lb, lb = b.length := ⟨_, rfl⟩
  rw [← hla'] at a1 hla HU ⊢
  rw [← hlb'] at b1 hlb HV ⊢
  have hne : 0 < lb := by rw [hlb']; exact hd.2.2.1
  have HLA := Lib.hid hla'
  have HLB := Lib.hid hlb'
  obtain ⟨⟨hm1, hm2⟩, -, -, ⟨hrc0, hrc1⟩, -⟩ := hd
  have hlen : ([] : List Int).length + a.length ≤ 1000000 := by have := HLA.out; simp; omega
  have hmk := mk_row (la + 1) ((la : Int) + 1) (by omega) (by omega)
  clear hla' hlb' ha
  go_enter Try.func55, Try.ntmps55
  go_wp2_with (at_builtin; refine wpList_app rfl (.tmp 12) (.tmp 13) rfl rfl w.heap.size (.slice none 0 0) [] rfl (Own1.nil _ _) (.slice ad la cap) a rfl HU.out hlen (Nat.le_refl _) ?_; intro v' w2 hown hgrow; have HO := Lib.hid hown; have HG := Lib.hid (show Gr w w2 from grown_own (Gr.refl _) (Own1.nil _ w.heap.size) hgrow (Nat.le_refl _)); clear hown hgrow)
  have hsz2 := HG.out.size
  obtain ⟨ra, rcap, rfl, hr1, hr2⟩ := HO.out.form
  have hRP := HO.out.hasP
  have hfrr := HO.out.fresh rfl
  simp only [List.nil_append] at hRP hr1 hfrr ⊢
  have hrb : ∀ p, ra = some p → p.block ≠ w2.heap.size := fun p hp => by
    rcases Nat.eq_zero_or_pos a.length with h0 | h0
    · rcases HO.out.2.2 with ⟨e, _⟩ | ⟨g, cp, cur, e, _, hh, _⟩
      · simp only [Value.slice.injEq] at e
        rw [e.1] at hp; cases hp
      · simp only [Value.slice.injEq] at e
        rw [e.1] at hp; cases hp
        have := (Array.getElem?_eq_some_iff.1 hh).1
        show g ≠ _; omega
    · obtain ⟨bb, hb1, hb2⟩ := hRP.block h0
      subst hp
      have : p.block = bb := Option.some.inj hb1
      omega
  have HRP := Lib.hid (show HasP (w2.alloc (.cells (zrow (la + 1)) 22)) (.slice ra a.length rcap) a from hRP.later (Gr.new _ _))
  obtain ⟨gq, hgq⟩ : ∃ gq, gq = w2.heap.size := ⟨_, rfl⟩
  have HZ := Lib.hid (show Row (w2.alloc (.cells (zrow (la + 1)) 22)) gq (List.replicate (la + 1) 0) from by rw [hgq]; exact Row.zeros w2 (la + 1))
  rw [← hgq] at hrb hsz2 ⊢
  have HRB := Lib.hid hrb
  have HFRR := Lib.hid hfrr
  have HG2 := Lib.hid (show Gr w (w2.alloc (.cells (zrow (la + 1)) 22)) from HG.out.alloc _)
  have HGQ := Lib.hid (show gq < (w2.alloc (.cells (zrow (la + 1)) 22)).heap.size from by rw [hgq, World.size_alloc]; omega)
  clear hRP hfrr hrb hmk hgq HO
  go_loopw [9] (fun s wr => ∃ rx rn rcp r q, s = .slice rx rn rcp ∧ HasP wr (.slice rx rn rcp) r ∧ Op.Nf m r ∧ r.length ≤ la ∧ Row wr gq q ∧ q.length = la + 1 ∧ Op.Rs m q ∧ (∀ j, j + lb ≤ r.length → Op.cf q j = 0) ∧ Op.Cg m a (Op.add (Op.mul q b) r) ∧ (∀ p, rx = some p → w.heap.size ≤ p.block ∧ p.block ≠ gq) ∧ Gr w wr) (fun s _ => match s with | .slice _ n _ => n | _ => 0)
  case atStart => exact ⟨ra, a.length, rcap, a, List.replicate (la + 1) 0, rfl, HRP.out, HA.out, by rw [← HLA.out]; omega, HZ.out, by simp, (fun x hx => by rw [List.eq_of_mem_replicate hx]; omega), (fun j _ => cf_rep _ j), Op.Cg.of (fun i => by
      have h : ∀ i, Op.cf (List.replicate (la + 1) 0) i = Op.cf [] i := fun i => by rw [cf_rep, Op.cf_nil]
      rw [Op.cf_add, Op.mul_congr h (fun _ => rfl), Op.cf_mul_nil, Int.zero_add]), (fun p hp => ⟨HFRR.out p hp, HRB.out p hp⟩), HG2.out⟩
  case round =>
    obtain ⟨rx, rn, rcp, r, q, rfl, hr, hnr, hrl, hrq, hql, hsq, hq0, hcg, hfr, hg⟩ := hrel
    have hrlen := hr.len
    have HRR := Lib.hid hr
    have HNR := Lib.hid hnr
    have HRQ := Lib.hid hrq
    have HQL := Lib.hid hql
    have HSQ := Lib.hid hsq
    have HQ0 := Lib.hid hq0
    have HCG := Lib.hid hcg
    have HFR := Lib.hid hfr
    have HGW := Lib.hid hg
    have HRL := Lib.hid hrlen.1
    have hrn : rn ≤ la := by omega
    have hszq := hrq.lt
    clear hr hnr hrl hrq hql hsq hq0 hcg hfr hg hrlen
    by_cases hlt : lb ≤ rn
    · obtain ⟨n, hn⟩ : ∃ n, n = rn - lb := ⟨_, rfl⟩
      have hn1 : n + lb = rn := by omega
      have e0 : (rn : Int) - (lb : Int) = (n : Int) := by omega
      obtain ⟨g, o, rfl, hct⟩ := HRR.out.cells0 (by omega)
      rw [Op.ld_eq HRL.out] at hct
      have hxb := Op.rs_cf (show 0 < m by omega) HNR.out.1 (r.length - 1)
      obtain ⟨x, hx⟩ : ∃ x, x = Op.ld r := ⟨_, rfl⟩
      have hxb : 0 ≤ x ∧ x < m := by rw [hx]; exact hxb
      obtain ⟨hx0, hx1⟩ := hxb
      rw [← hx] at hct
      have HX := Lib.hid hx
      have hcq := HRQ.out.cell (j := n) (by rw [HQL.out]; omega)
      rw [HQ0.out n (by rw [← HRL.out]; omega)] at hcq
      have hfq := HRQ.out.frozen n
      obtain ⟨c, hc⟩ : ∃ c, c = x * rc % m := ⟨_, rfl⟩
      have hc0 : 0 ≤ c := by rw [hc]; exact Int.emod_nonneg _ (by omega)
      have hc1 : c < m := by rw [hc]; exact Int.emod_lt_of_pos _ (by omega)
      have p0 := mul_lo hx0 hrc0
      have p1 := mul_hi hx0 hrc0 (by omega) (by omega)
      have HCE := Lib.hid hc
      have i1 : ((rn - 1 : Nat) : Int) = (rn : Int) - 1 := by omega
      have i2 : ((rn : Int) - 1).toNat = rn - 1 := by omega
      have i3 : (n : Int) < ((la + 1 : Nat) : Int) := by omega
      have i4 : (n : Int) < (la : Int) + 1 := by omega
      have hlt' : (lb : Int) ≤ (rn : Int) := by omega
      have hgr0 : ¬ (g = gq) := (HFR.out _ rfl).2
      have hgr1 : w.heap.size ≤ g := (HFR.out _ rfl).1
      clear hx hn
      have hcm := hc.symm
      clear hc
      go_wp2_with fail
      have hcb : 0 ≤ c ∧ c < 4294967296 := by omega
      obtain ⟨W1, hW1⟩ : ∃ W1, W1 = wr.setCell ⟨gq, n, none⟩ (.int .u32 c) := ⟨_, rfl⟩
      have hU1 : Upd gq n [c] wr W1 := by
        rw [hW1]
        obtain ⟨_, cur, h1, h2, _⟩ := HRQ.out
        have h := (Upd.start (o := n) h1 (by rw [HQL.out] at h2; omega)).step (k := 0) (d := c) rfl (v := .int .u32 0) (by rw [Nat.add_zero]; exact hcq)
        rw [Nat.add_zero] at h
        exact h
      rw [← hW1]
      have hl1 : ([c] : List Int).length = 1 := rfl
      have HRQ1 := Lib.hid (show Row W1 gq (put q n [c]) from HRQ.out.upd hU1 (U32.one hcb) (by rw [HQL.out, hl1]; omega))
      have HRR1 := Lib.hid (show HasP W1 (.slice (some ⟨g, o, none⟩) rn rcp) r from HRR.out.upd hU1 (fun _ e => hgr0 (by have := Option.some.inj (show some g = some gq from e); exact this)))
      have HG1 := Lib.hid (show Gr w W1 from hU1.gr HGW.out (by omega))
      have hg1q : gq < W1.heap.size := by rw [hU1.size]; exact hszq
      have HCB := Lib.hid hcb
      have HMB := Lib.hid (show 1 ≤ m ∧ m ≤ 4294967295 from by omega)
      clear hW1 hU1 hcq hfq hct hcb hl1
      refine (power5_any c n _ HCB.out (by omega)).mono ?_
      rintro e w3 ⟨xp, np, cp, rfl, hp, hpf, hpg⟩
      have HP := Lib.hid hp
      have HPG := Lib.hid hpg
      clear hp hpf hpg
      go_wp2_with fail
      refine (times5_any m (Op.sh n [c]) b _ _ _ HMB.out HP.out (HV.out.later (HG1.out.trans HPG.out)) (by rw [Op.sh_len]; simp; omega) (by rw [← HLB.out]; omega)).mono ?_
      rintro e w4 ⟨xt, nt, ct, rfl, ht, htf, htg⟩
      have HT := Lib.hid ht
      have HTG := Lib.hid (HPG.out.trans htg)
      clear ht htf htg
      go_wp2_with fail
      refine (minus5_any m r (Op.nf m (Op.mul (Op.sh n [c]) b)) _ _ _ HMB.out (Op.nf_nf (by omega) _).1 (HRR1.out.later HTG.out) HT.out (by rw [← HRL.out]; omega) (by have h1 := Op.nf_len m (Op.mul (Op.sh n [c]) b); have h2 := Op.mul_len (Op.sh n [c]) b; rw [Op.sh_len] at h2; simp at h2; have := HLB.out; omega)).mono ?_
      rintro e w5 ⟨x5, n5, c5, rfl, h5, h5f, h5g⟩
      obtain ⟨r', hr'⟩ : ∃ r', r' = Op.nf m (Op.add r (Op.sc (-1) (Op.nf m (Op.mul (Op.sh n [c]) b)))) := ⟨_, rfl⟩
      rw [← hr'] at h5
      have hstep := split_step hm1 HNR.out (by rw [← HLB.out]; exact hne) (by rw [← HLB.out, ← HRL.out]; exact hn1) (by rw [HQL.out]; omega) (HQ0.out n (by rw [← HRL.out]; omega)) (by rw [← HX.out]; exact HCE.out) HD.out.2.2.2.2 hr' HCG.out
      have h5l := h5.len
      have HLT := Lib.hid (show n5 < rn from by have := hstep.2.1; have := HRL.out; omega)
      have HLE := Lib.hid (show r'.length ≤ la from by have := hstep.2.1; have := HRL.out; omega)
      have HQL1 := Lib.hid (show (put q n [c]).length = la + 1 from by rw [put_len (by rw [HQL.out]; simp; omega)]; exact HQL.out)
      have HQ1 := Lib.hid (show ∀ j, j + lb ≤ r'.length → Op.cf (put q n [c]) j = 0 from fun j hj => by
        have := hstep.2.1
        have := HRL.out
        rw [cf_put (by rw [HQL.out]; simp; omega), if_neg (by omega)]
        exact HQ0.out j (by omega))
      have HF := Lib.hid (show ∀ p, x5 = some p → w.heap.size ≤ p.block ∧ p.block ≠ gq from fun p hp => by
        have h1 := h5f p hp
        have h2 := HTG.out.size
        exact ⟨by omega, by omega⟩)
      have H5 := Lib.hid (And.intro h5 (And.intro hstep.1 hstep.2.2))
      have HRQ5 := Lib.hid (show Row w5 gq (put q n [c]) from HRQ1.out.later (HTG.out.trans h5g))
      have HG5 := Lib.hid (show Gr w w5 from (HG1.out.trans HTG.out).trans h5g)
      clear h5 h5f h5g hr' hstep h5l
      go_wp2_with fail
      go_roundw
      case rel => exact ⟨x5, n5, c5, r', put q n [c], rfl, H5.out.1, H5.out.2.1, HLE.out, HRQ5.out, HQL1.out, Op.rs_put HSQ.out (fun y hy => by simp at hy; subst hy; omega), HQ1.out, H5.out.2.2, HF.out, HG5.out⟩
      case measure => exact HLT.out
    · have hlt' : ¬ (lb : Int) ≤ (rn : Int) := by omega
      have hP := HRQ.out.hasP (cap := la + 1) (by rw [HQL.out]; omega) (by omega)
      rw [HQL.out] at hP
      have HPQ := Lib.hid hP
      clear hP
      go_wp2_with fail
      refine (trim5_any q _ _ HPQ.out (by rw [HQL.out]; omega)).mono ?_
      rintro e w3 ⟨x3, n3, c3, rfl, h3, h3f, h3g⟩
      have H := Lib.hid (And.intro h3 (And.intro h3f h3g))
      clear h3 h3f h3g
      go_wp2_with fail
      go_ret2
      obtain ⟨h3, h3f, h3g⟩ := H.out
      exact ⟨_, _, _, _, _, _, Op.tz q, r, rfl, h3, HRR.out.later h3g, ⟨⟨fun x hx => HSQ.out x (Op.tz_mem hx), Op.tz_tz q⟩, HNR.out, (by rw [← HRL.out, ← HLB.out]; omega), HCG.out.trans (((Op.Cg.of (fun i => (Op.cf_tz q i).symm)).mul (Op.Cg.refl m b)).add (Op.Cg.refl m r))⟩, (fun p hp => Nat.le_trans HGW.out.size (h3f p hp)), (fun p hp => (HFR.out p hp).1), HGW.out.trans h3g⟩
end Go.Proofs.Ytaenjbemkeghgaa
