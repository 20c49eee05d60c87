import Derived.Test.YtlfiakpmnkhcdaaGreatLWM
namespace Oh
def SumJ (l m : List Nat) (k : Nat) : Prop := k = 0 ∨ 65536 ^ (k - 1) ≤ val l + val m
theorem nm_ge {l : List Nat} (h : Nm l) {k : Nat} (hk : k < l.length) : 65536 ^ k ≤ val l := by
 have h1 := val_ge l h.2 (by intro e; rw [e] at hk; simp at hk)
 exact Nat.le_trans (Nat.pow_le_pow_right (by omega) (by omega)) h1
theorem sumj {l m : List Nat} {k c : Nat} {pre : List Nat} (h : SumI l m k pre c) (hl : Nm l) (hm : Nm m) (hk : k < l.length ∨ k < m.length ∨ 0 < c) : 65536 ^ (k + 1 - 1) ≤ val l + val m := by
 rw [Nat.add_sub_cancel]
 by_cases h1 : k < l.length
 ·have := nm_ge hl h1; omega
 ·by_cases h2 : k < m.length
  ·have := nm_ge hm h2; omega
  ·have h3 : 0 < c := by omega
   have h4 := h.2.2.2
   rw [List.take_of_length_le (by omega), List.take_of_length_le (by omega)] at h4
   have h5 : 1 * 65536 ^ k ≤ c * 65536 ^ k := Nat.mul_le_mul_right _ h3
   omega
end Oh
namespace Go.Proofs.YtlfiakpmnkhcdaaGreat
open Go.RowKit
set_option linter.unusedVariables false
def WordPostN (N n : Nat) (w : World) (e : Ending) (w' : World) : Prop := ∃ v l, e = .returned v ∧ HasD w' v l ∧ Oh.Nm l ∧ Oh.val l = n ∧ l.length ≤ N ∧ Gr w w'
set_option maxRecDepth 100000 in
set_option maxHeartbeats 4000000 in
theorem rplusn_any (l m : List Nat) (u v : Value) (w : World) (hu : HasD w u l) (hv : HasD w v m) (hnl : Oh.Nm l) (hnm : Oh.Nm m) (N : Nat) (hlN : l.length ≤ N) (hmN : m.length ≤ N) (hN : N ≤ 100000) :
  Calls Tryz.prog 123 #[u, v] w (WordPostN (N + 1) (Oh.val l + Oh.val m) w) := by
 obtain ⟨-, a, cap, rfl, u1, u2, -⟩ := id hu
 obtain ⟨-, b, cap', rfl, v1, v2, -⟩ := id hv
 have HU := Lib.hid hu
 have HV := Lib.hid hv
 have HL := Lib.hid hnl.1
 have HM := Lib.hid hnm.1
 have HNL := Lib.hid hnl
 have HNM := Lib.hid hnm
 obtain ⟨len, hlen⟩ : ∃ len, len = l.length := ⟨_, rfl⟩
 obtain ⟨len', hlen'⟩ : ∃ len', len' = m.length := ⟨_, rfl⟩
 rw [← hlen] at u1 hlN HU ⊢
 rw [← hlen'] at v1 hmN HV ⊢
 have HLEN := Lib.hid hlen
 have HLEN' := Lib.hid hlen'
 clear hu hv hnl hnm hlen hlen'
 go_enter Tryz.func123, Tryz.ntmps123
 go_wp2_with fail
 go_loopw [5, 6, 7] (fun t c i wr => ∃ (k cr : Nat) (pre : List Nat) (ar : Option Addr) (capr : Nat), i = .int .i64 k ∧ c = .int .u32 cr ∧ t = .slice ar k capr ∧ cr ≤ 1 ∧ k ≤ N + 1 ∧ Oh.SumI l m k pre cr ∧ Oh.SumJ l m k ∧ Own1 wr w.heap.size (.slice ar k capr) pre ∧ Gr w wr) (fun _ _ i _ => N + 1 - (intOf i).toNat)
 case atStart => exact ⟨0, 0, [], none, 0, rfl, rfl, rfl, by omega, by omega, Oh.SumI.start _ _, .inl rfl, Own1.nil _ _, Gr.refl _⟩
 case round =>
  obtain ⟨wo, rfl⟩ : ∃ wo : World, wo = wr := ⟨_, rfl⟩
  obtain ⟨k, cr, pre, ar, capr, rfl, rfl, rfl, hcr, hk, hsum, hsj, hown, hgr⟩ := hrel
  have HSUM := Lib.hid hsum
  have HJJ := Lib.hid hsj
  have HOWN := Lib.hid hown
  have HGR := Lib.hid hgr
  have hsz := hgr.size
  clear hsum hsj hown hgr
  obtain ⟨x, hx⟩ : ∃ x, x = l[k]?.getD 0 := ⟨_, rfl⟩
  obtain ⟨y, hy⟩ : ∃ y, y = m[k]?.getD 0 := ⟨_, rfl⟩
  have hxb : x < 65536 := by rw [hx]; exact Oh.dg_at HL.out k
  have hyb : y < 65536 := by rw [hy]; exact Oh.dg_at HM.out k
  have HST := Lib.hid (HSUM.out.step HL.out HM.out)
  rw [← hx, ← hy] at HST
  have HX := Lib.hid hx
  have HY := Lib.hid hy
  clear hx hy
  obtain ⟨ss, hss⟩ : ∃ ss, ss = x + y + cr := ⟨_, rfl⟩
  rw [← hss] at HST
  have HSS := Lib.hid hss
  have hssb : ss ≤ 131071 := by omega
  clear hss
  have pl : pre.length = k := HSUM.out.1
  have HPL := Lib.hid pl
  clear pl
  by_cases h1 : k < len
  ·by_cases h2 : k < len'
   ·have HKN := Lib.hid (show k < N + 1 by omega)
    have HSJ := Lib.hid (Oh.sumj HSUM.out HNL.out HNM.out (show k < l.length ∨ k < m.length ∨ 0 < cr by rw [← HLEN.out, ← HLEN'.out]; omega))
    obtain ⟨ga, oa, rfl, ca⟩ := HU.out.at (i := k) (by rw [← HLEN.out]; omega)
    have ca := HGR.out.keeps ca
    rw [← HX.out] at ca
    have q1 : decide ((k : Int) < (len : Int)) = true := by simp; omega
    have q1' : decide (k < len) = true := by simp; omega
    have HXZ := Lib.hid (show (0 : Int) = 0 from rfl)
    obtain ⟨gb, ob, rfl, cb⟩ := HV.out.at (i := k) (by rw [← HLEN'.out]; omega)
    have cb := HGR.out.keeps cb
    rw [← HY.out] at cb
    have q2 : decide ((k : Int) < (len' : Int)) = true := by simp; omega
    have q2' : decide (k < len') = true := by simp; omega
    have HYZ := Lib.hid (show (0 : Int) = 0 from rfl)
    go_wp2_with (at_builtin; refine wpList_app rfl _ _ rfl rfl w.heap.size _ pre rfl (HOWN.out.alloc _) _ [ss % 65536] rfl (HasD.one _ _ _ (by have := HSS.out; have := HXZ.out; have := HYZ.out; omega) (by omega)) (by rw [HPL.out]; simp; omega) (by rw [World.size_alloc]; omega) ?_; intro v' w1 hown' hgrow; (have hbl := grown_below HOWN.out hgrow hsz); (obtain ⟨a', cap', rfl⟩ := hown'.slice (n := k + 1) (by rw [List.length_append, HPL.out]; rfl)); have HOWN2 := Lib.hid hown'; have HBL := Lib.hid hbl; clear hown' hgrow hbl)
    exact ⟨⟨k + 1, ss / 65536, _, a', cap', by simp, by congr 1; have := HSS.out; have := HXZ.out; have := HYZ.out; omega, rfl, by omega, by have := HKN.out; omega, HST.out, .inr HSJ.out, HOWN2.out, Below.trans HGR.out HBL.out⟩, by have := HKN.out; simp [intOf]; omega⟩
   ·have HKN := Lib.hid (show k < N + 1 by omega)
    have HSJ := Lib.hid (Oh.sumj HSUM.out HNL.out HNM.out (show k < l.length ∨ k < m.length ∨ 0 < cr by rw [← HLEN.out, ← HLEN'.out]; omega))
    obtain ⟨ga, oa, rfl, ca⟩ := HU.out.at (i := k) (by rw [← HLEN.out]; omega)
    have ca := HGR.out.keeps ca
    rw [← HX.out] at ca
    have q1 : decide ((k : Int) < (len : Int)) = true := by simp; omega
    have q1' : decide (k < len) = true := by simp; omega
    have HXZ := Lib.hid (show (0 : Int) = 0 from rfl)
    have q2 : decide ((k : Int) < (len' : Int)) = false := by simp; omega
    have q2' : decide (k < len') = false := by simp; omega
    have HYZ := Lib.hid (show y = 0 by rw [HY.out]; exact none_at (by rw [← HLEN'.out]; omega))
    go_wp2_with (at_builtin; refine wpList_app rfl _ _ rfl rfl w.heap.size _ pre rfl (HOWN.out.alloc _) _ [ss % 65536] rfl (HasD.one _ _ _ (by have := HSS.out; have := HXZ.out; have := HYZ.out; omega) (by omega)) (by rw [HPL.out]; simp; omega) (by rw [World.size_alloc]; omega) ?_; intro v' w1 hown' hgrow; (have hbl := grown_below HOWN.out hgrow hsz); (obtain ⟨a', cap', rfl⟩ := hown'.slice (n := k + 1) (by rw [List.length_append, HPL.out]; rfl)); have HOWN2 := Lib.hid hown'; have HBL := Lib.hid hbl; clear hown' hgrow hbl)
    exact ⟨⟨k + 1, ss / 65536, _, a', cap', by simp, by congr 1; have := HSS.out; have := HXZ.out; have := HYZ.out; omega, rfl, by omega, by have := HKN.out; omega, HST.out, .inr HSJ.out, HOWN2.out, Below.trans HGR.out HBL.out⟩, by have := HKN.out; simp [intOf]; omega⟩
  ·by_cases h2 : k < len'
   ·have HKN := Lib.hid (show k < N + 1 by omega)
    have HSJ := Lib.hid (Oh.sumj HSUM.out HNL.out HNM.out (show k < l.length ∨ k < m.length ∨ 0 < cr by rw [← HLEN.out, ← HLEN'.out]; omega))
    have q1 : decide ((k : Int) < (len : Int)) = false := by simp; omega
    have q1' : decide (k < len) = false := by simp; omega
    have HXZ := Lib.hid (show x = 0 by rw [HX.out]; exact none_at (by rw [← HLEN.out]; omega))
    obtain ⟨gb, ob, rfl, cb⟩ := HV.out.at (i := k) (by rw [← HLEN'.out]; omega)
    have cb := HGR.out.keeps cb
    rw [← HY.out] at cb
    have q2 : decide ((k : Int) < (len' : Int)) = true := by simp; omega
    have q2' : decide (k < len') = true := by simp; omega
    have HYZ := Lib.hid (show (0 : Int) = 0 from rfl)
    go_wp2_with (at_builtin; refine wpList_app rfl _ _ rfl rfl w.heap.size _ pre rfl (HOWN.out.alloc _) _ [ss % 65536] rfl (HasD.one _ _ _ (by have := HSS.out; have := HXZ.out; have := HYZ.out; omega) (by omega)) (by rw [HPL.out]; simp; omega) (by rw [World.size_alloc]; omega) ?_; intro v' w1 hown' hgrow; (have hbl := grown_below HOWN.out hgrow hsz); (obtain ⟨a', cap', rfl⟩ := hown'.slice (n := k + 1) (by rw [List.length_append, HPL.out]; rfl)); have HOWN2 := Lib.hid hown'; have HBL := Lib.hid hbl; clear hown' hgrow hbl)
    exact ⟨⟨k + 1, ss / 65536, _, a', cap', by simp, by congr 1; have := HSS.out; have := HXZ.out; have := HYZ.out; omega, rfl, by omega, by have := HKN.out; omega, HST.out, .inr HSJ.out, HOWN2.out, Below.trans HGR.out HBL.out⟩, by have := HKN.out; simp [intOf]; omega⟩
   ·by_cases h3 : 0 < cr
    ·have hkN := HSUM.out.more HL.out HM.out h3 (M := N) (by rw [← HLEN.out]; exact hlN) (by rw [← HLEN'.out]; exact hmN)
     have HKN := Lib.hid (show k < N + 1 by omega)
     have HSJ := Lib.hid (Oh.sumj HSUM.out HNL.out HNM.out (show k < l.length ∨ k < m.length ∨ 0 < cr by rw [← HLEN.out, ← HLEN'.out]; omega))
     have q3 : decide ((0 : Int) < (cr : Int)) = true := by simp; omega
     have q3' : decide (0 < cr) = true := by simp; omega
     have q1 : decide ((k : Int) < (len : Int)) = false := by simp; omega
     have q1' : decide (k < len) = false := by simp; omega
     have HXZ := Lib.hid (show x = 0 by rw [HX.out]; exact none_at (by rw [← HLEN.out]; omega))
     have q2 : decide ((k : Int) < (len' : Int)) = false := by simp; omega
     have q2' : decide (k < len') = false := by simp; omega
     have HYZ := Lib.hid (show y = 0 by rw [HY.out]; exact none_at (by rw [← HLEN'.out]; omega))
     go_wp2_with (at_builtin; refine wpList_app rfl _ _ rfl rfl w.heap.size _ pre rfl (HOWN.out.alloc _) _ [ss % 65536] rfl (HasD.one _ _ _ (by have := HSS.out; have := HXZ.out; have := HYZ.out; omega) (by omega)) (by rw [HPL.out]; simp; omega) (by rw [World.size_alloc]; omega) ?_; intro v' w1 hown' hgrow; (have hbl := grown_below HOWN.out hgrow hsz); (obtain ⟨a', cap', rfl⟩ := hown'.slice (n := k + 1) (by rw [List.length_append, HPL.out]; rfl)); have HOWN2 := Lib.hid hown'; have HBL := Lib.hid hbl; clear hown' hgrow hbl)
     exact ⟨⟨k + 1, ss / 65536, _, a', cap', by simp, by congr 1; have := HSS.out; have := HXZ.out; have := HYZ.out; omega, rfl, by omega, by have := HKN.out; omega, HST.out, .inr HSJ.out, HOWN2.out, Below.trans HGR.out HBL.out⟩, by have := HKN.out; simp [intOf]; omega⟩
    ·obtain rfl : cr = 0 := by omega
     have q1 : decide ((k : Int) < (len : Int)) = false := by simp; omega
     have q1' : decide (k < len) = false := by simp; omega
     have HXZ := Lib.hid (show x = 0 by rw [HX.out]; exact none_at (by rw [← HLEN.out]; omega))
     have q2 : decide ((k : Int) < (len' : Int)) = false := by simp; omega
     have q2' : decide (k < len') = false := by simp; omega
     have HYZ := Lib.hid (show y = 0 by rw [HY.out]; exact none_at (by rw [← HLEN'.out]; omega))
     go_wp2_with fail
     go_ret
     have hval := HSUM.out.done (by rw [← HLEN.out]; omega) (by rw [← HLEN'.out]; omega)
     exact ⟨_, pre, rfl, HOWN.out.hasD, ⟨HSUM.out.2.1, Oh.nm_of HSUM.out.2.1 (by rw [HPL.out, hval]; exact HJJ.out)⟩, HSUM.out.done (by rw [← HLEN.out]; omega) (by rw [← HLEN'.out]; omega), by rw [HPL.out]; exact hk, HGR.out⟩
end Go.Proofs.YtlfiakpmnkhcdaaGreat
