/- The reference: minus, times, power. -/
import Derived.Test.YtaenjbemkeghgaaPra
namespace Go.Proofs.Ytaenjbemkeghgaa
open Go.RowKit
set_option linter.unusedVariables false

theorem max_cases (la lb n : Nat) (h : n = max la lb) : ((la : Int) < (lb : Int) ∧ n = lb) ∨ (¬ (la : Int) < (lb : Int) ∧ n = la) := by omega

set_option maxRecDepth 100000 in
set_option maxHeartbeats 2000000 in
theorem minus5_any (m : Int) (a b : List Int) (u v : Value) (w : World) (hm : 1 ≤ m ∧ m ≤ 4294967295) (hb : Op.Rs m b) (hu : HasP w u a) (hv : HasP w v b) (hla : a.length ≤ 100000) (hlb : b.length ≤ 100000) :
    Calls Try.prog 49 #[.int .u32 m, u, v] w (NewP (Op.nf m (Op.add a (Op.sc (-1) b))) w) := by
  have HM := Lib.hid hm
  have HB := Lib.hid hb
  have HDA := Lib.hid hu.1
  have HU := Lib.hid hu
  have HV := Lib.hid hv
  obtain ⟨-, xa, ca, rfl, a1, a2, -⟩ := hu
  obtain ⟨-, xb, cb, rfl, b1, b2, -⟩ := hv
  obtain ⟨la, hla'⟩ : ∃ la, la = a.length := ⟨_, rfl⟩
  obtain ⟨lb, hlb'⟩ : ∃ lb, lb = b.length := ⟨_, rfl⟩
  obtain ⟨n, hn⟩ : ∃ n, n = max la lb := ⟨_, rfl⟩
  have HC := max_cases la lb n hn
  rw [← hla'] at a1 hla HU ⊢
  rw [← hlb'] at b1 hlb HV ⊢
  have hn3 : n ≤ 100000 := by omega
  have hn4 : la ≤ n ∧ lb ≤ n := by omega
  have HLA := Lib.hid hla'
  have HLB := Lib.hid hlb'
  have HN4 := Lib.hid hn4
  obtain ⟨hm1, hm2⟩ := hm
  clear hb hla' hlb' hn hn4
  rcases HC with ⟨hc, he⟩ | ⟨hc, he⟩
  all_goals
    have HE := Lib.hid he
    clear he
    go_enter Try.func49, Try.ntmps49
    go_wp2_with fail
    go_loopw [7, 8] (fun s t wr => ∃ (k : Nat) (pre : List Int), t = .int .i64 k ∧ k ≤ n ∧ pre.length = k ∧ (∀ i, i < k → Op.cf pre i = (Op.cf a i + m - Op.cf b i) % m) ∧ Own1 wr w.heap.size s pre ∧ Gr w wr) (fun _ t _ => n - (intOf t).toNat)
    case atStart => exact ⟨0, [], rfl, by omega, rfl, (fun i hi => by omega), Own1.nil _ _, Gr.refl w⟩
    case round =>
      obtain ⟨k, pre, rfl, hk, hp, hpc, hown, hg⟩ := hrel
      have HP := Lib.hid hp
      have HPC := Lib.hid hpc
      have HO := Lib.hid hown
      have HG := Lib.hid hg
      have hsz := hg.size
      obtain ⟨vx, vc, rfl, -, -⟩ := hown.form
      clear hp hpc hown hg
      by_cases hlt : k < n
      · have HUW := Lib.hid (HU.out.later HG.out)
        have HVW := Lib.hid (HV.out.later HG.out)
        have hx := HDA.out.at_ k
        have hy := Op.rs_cf (show 0 < m by omega) HB.out k
        obtain ⟨x, hxe⟩ : ∃ x, x = Op.cf a k := ⟨_, rfl⟩
        obtain ⟨y, hye⟩ : ∃ y, y = Op.cf b k := ⟨_, rfl⟩
        rw [← hxe] at hx
        rw [← hye] at hy
        have HX := Lib.hid hxe
        have HY := Lib.hid hye
        obtain ⟨hx0, hx1⟩ := hx
        obtain ⟨hy0, hy1⟩ := hy
        have i2 : (k : Int) < (n : Int) := by omega
        have hla2 : a.length ≤ 1000000 := by rw [← HLA.out]; omega
        have hlb2 : b.length ≤ 1000000 := by rw [← HLB.out]; omega
        have hr0 := emod_lo (x + m - y) m hm1
        have hr1 := emod_hi (x + m - y) m hm1
        have HLA2 := Lib.hid hla2
        have HLB2 := Lib.hid hlb2
        have HPL := Lib.hid (show pre.length + [(x + m - y) % m].length ≤ 1000000 from by rw [HP.out]; simp; omega)
        have hk6 : k ≤ 1000000 := by omega
        have HRB := Lib.hid (show 0 ≤ (x + m - y) % m ∧ (x + m - y) % m < 4294967296 from by omega)
        clear hla2 hlb2 hxe hye
        first | have hkl : (k : Int) < (lb : Int) := (by have := HE.out; omega) | have hkl : (k : Int) < (la : Int) := (by have := HE.out; omega)
        go_wp2_with (first
          | (go_at_call 48; ((with_reducible refine (at_any a k _ _ HUW.out HLA2.out hk6).mono ?_); rintro e w' ⟨rfl, rfl⟩; rw [← HX.out]))
          | (go_at_call 48; ((with_reducible refine (at_any b k _ _ HVW.out HLB2.out hk6).mono ?_); rintro e w' ⟨rfl, rfl⟩; rw [← HY.out]))
          | (at_builtin; refine wpList_app rfl (.tmp 18) (.tmp 33) rfl rfl w.heap.size (.slice vx pre.length vc) pre rfl (HO.out.alloc _) (.slice (some ⟨wr.heap.size, 0, none⟩) 1 1) [(x + m - y) % m] rfl (one_hasP' _ _ _ rfl HRB.out) HPL.out (Nat.le_trans hsz (Nat.le_of_lt (by simp))) ?_; intro v' w2 hown hgrow; have HO2 := Lib.hid hown; have HG2 := Lib.hid (show Gr w w2 from grown_own (HG.out.alloc _) (HO.out.alloc _) hgrow (Nat.le_refl _)); clear hown hgrow))
        go_roundw
        case rel => exact ⟨k + 1, pre ++ [(x + m - y) % m], by go_num, by omega, by rw [List.length_append, HP.out]; rfl, (fun i hi => by
            rw [Op.cf_append]
            by_cases h : i < pre.length
            · rw [if_pos h]; exact HPC.out i (by have := HP.out; omega)
            · rw [if_neg h]
              obtain rfl : i = k := by have := HP.out; omega
              rw [HP.out, Nat.sub_self, HX.out, HY.out]; rfl), HO2.out, HG2.out⟩
        case measure => simp [intOf]; omega
      · obtain rfl : k = n := by omega
        have HNF := Lib.hid (show Op.tz pre = Op.nf m (Op.add a (Op.sc (-1) b)) from Op.tz_nf (fun i => by
          rw [Op.cf_add, Op.cf_sc]
          have h0 : (Op.cf a i + m - Op.cf b i) % m = (Op.cf a i + -1 * Op.cf b i) % m := by
            have e : Op.cf a i + m - Op.cf b i = (Op.cf a i + -1 * Op.cf b i) + m := by omega
            rw [e, Int.add_emod_right]
          by_cases h : i < k
          · rw [HPC.out i h, h0]
          · have := HN4.out
            rw [Op.cf_out (l := pre) (by rw [HP.out]; omega), Op.cf_out (l := a) (by rw [← HLA.out]; omega), Op.cf_out (l := b) (by rw [← HLB.out]; omega)]
            simp))
        have hkl : ¬ (k : Int) < (lb : Int) := by have := HN4.out; omega
        have hkl2 : ¬ (k : Int) < (la : Int) := by have := HN4.out; omega
        go_wp2_with fail
        refine (trim5_any pre _ _ HO.out.hasP (by rw [HP.out]; omega)).mono ?_
        rintro e w2 ⟨x, j, c, rfl, hx, hfr, hg2⟩
        have H := Lib.hid (And.intro hx (And.intro hfr hg2))
        clear hx hfr hg2
        go_wp2_with fail
        go_ret
        obtain ⟨hx, hfr, hg2⟩ := H.out
        exact ⟨_, _, _, rfl, by rw [← HNF.out]; exact hx, (fun p hp => Nat.le_trans hsz (hfr p hp)), HG.out.trans hg2⟩

set_option maxRecDepth 100000 in
set_option maxHeartbeats 2000000 in
theorem times5_any (m : Int) (a b : List Int) (u v : Value) (w : World) (hm : 1 ≤ m ∧ m ≤ 4294967295) (hu : HasP w u a) (hv : HasP w v b) (hla : a.length ≤ 100000) (hlb : b.length ≤ 100000) :
    Calls Try.prog 50 #[.int .u32 m, u, v] w (NewP (Op.nf m (Op.mul a b)) w) := by
  have HDA := Lib.hid hu.1
  have HDB := Lib.hid hv.1
  have HU := Lib.hid hu
  have HV := Lib.hid hv
  obtain ⟨-, xa, ca, rfl, a1, a2, -⟩ := hu
  obtain ⟨-, xb, cb, rfl, b1, b2, -⟩ := hv
  obtain ⟨la, hla'⟩ : ∃ la, la = a.length := ⟨_, rfl⟩
  obtain ⟨lb, hlb'⟩ : ∃ lb, lb = b.length := ⟨_, rfl⟩
  rw [← hla'] at a1 hla HU ⊢
  rw [← hlb'] at b1 hlb HV ⊢
  have HLA := Lib.hid hla'
  have HLB := Lib.hid hlb'
  have HLA2 := Lib.hid (show a.length ≤ 1000000 from by omega)
  have HLB2 := Lib.hid (show b.length ≤ 1000000 from by omega)
  obtain ⟨hm1, hm2⟩ := hm
  clear hla' hlb'
  go_enter Try.func50, Try.ntmps50
  go_wp2_with fail
  go_loopw [7, 8] (fun s t wr => ∃ (k : Nat) (pre : List Int), t = .int .i64 k ∧ k ≤ la + lb ∧ pre.length = k ∧ (∀ i, i < k → Op.cf pre i = Op.cf (Op.mul a b) i % m) ∧ Own1 wr w.heap.size s pre ∧ Gr w wr) (fun _ t _ => la + lb - (intOf t).toNat)
  case atStart => exact ⟨0, [], rfl, by omega, rfl, (fun i hi => by omega), Own1.nil _ _, Gr.refl w⟩
  case round =>
    obtain ⟨k, pre, rfl, hk, hp, hpc, hown, hg⟩ := hrel
    have HP := Lib.hid hp
    have HPC := Lib.hid hpc
    have HO := Lib.hid hown
    have HG := Lib.hid hg
    have hsz := hg.size
    obtain ⟨vx, vc, rfl, -, -⟩ := hown.form
    clear hp hpc hown hg
    by_cases hlt : k < la + lb
    · have HUW := Lib.hid (HU.out.later HG.out)
      have HVW := Lib.hid (HV.out.later HG.out)
      have i2 : (k : Int) < (la : Int) + (lb : Int) := by omega
      go_wp2_with fail
      go_loop [9, 10] (fun s t => ∃ (j : Nat) (z : Int), s = .int .u64 z ∧ t = .int .i64 j ∧ j ≤ k + 1 ∧ 0 ≤ z ∧ z < m ∧ m ∣ z - Op.S j (fun i => Op.cf a i * Op.cf b (k - i))) (fun _ t => k + 1 - (intOf t).toNat)
      case atStart => exact ⟨0, 0, rfl, rfl, by omega, by omega, by omega, ⟨0, by simp [Op.S]⟩⟩
      case round =>
        obtain ⟨j, z, rfl, rfl, hj, hz0, hz1, hzd⟩ := hrel
        have HZD := Lib.hid hzd
        clear hzd
        by_cases hjk : j ≤ k
        · have hx := HDA.out.at_ j
          have hy := HDB.out.at_ (k - j)
          obtain ⟨x, hxe⟩ : ∃ x, x = Op.cf a j := ⟨_, rfl⟩
          obtain ⟨y, hye⟩ : ∃ y, y = Op.cf b (k - j) := ⟨_, rfl⟩
          rw [← hxe] at hx
          rw [← hye] at hy
          have HX := Lib.hid hxe
          have HY := Lib.hid hye
          obtain ⟨hx0, hx1⟩ := hx
          obtain ⟨hy0, hy1⟩ := hy
          have i3 : (j : Int) ≤ (k : Int) := by omega
          have i4 : (k : Int) - (j : Int) = ((k - j : Nat) : Int) := by omega
          have p0 := mul_lo hx0 hy0
          have p1 := mul_hi hx0 hy0 (by omega) (by omega)
          have r0 := emod_lo (z + x * y) m hm1
          have r1 := emod_hi (z + x * y) m hm1
          have hj6 : j ≤ 1000000 := by omega
          have hkj6 : k - j ≤ 1000000 := by omega
          have HZ2 := Lib.hid (show m ∣ (z + x * y) % m - Op.S (j + 1) (fun i => Op.cf a i * Op.cf b (k - i)) from by
            have h1 := Op.dvd_mod m (z + x * y)
            have e : (z + x * y) % m - Op.S (j + 1) (fun i => Op.cf a i * Op.cf b (k - i)) = ((z + x * y) % m - (z + x * y)) + (z - Op.S j (fun i => Op.cf a i * Op.cf b (k - i))) := by
              rw [Op.S, hxe, hye]; omega
            rw [e]; exact Int.dvd_add h1 HZD.out)
          clear hxe hye
          go_wp2_with (first
            | (go_at_call 48; ((with_reducible refine (at_any a j _ _ HUW.out HLA2.out hj6).mono ?_); rintro e w' ⟨rfl, rfl⟩; rw [← HX.out]))
            | (go_at_call 48; (try rw [i4]); ((with_reducible refine (at_any b (k - j) _ _ HVW.out HLB2.out hkj6).mono ?_); rintro e w' ⟨rfl, rfl⟩; rw [← HY.out])))
          go_round
          case rel => exact ⟨j + 1, (z + x * y) % m, rfl, by go_num, by omega, r0, r1, HZ2.out⟩
          case measure => simp [intOf]; omega
        · obtain rfl : j = k + 1 := by omega
          have i3 : ¬ ((k + 1 : Nat) : Int) ≤ (k : Int) := by omega
          have i5 : ¬ (k : Int) + 1 ≤ (k : Int) := by omega
          have HPL := Lib.hid (show pre.length + [z].length ≤ 1000000 from by rw [HP.out]; simp; omega)
          have HRB := Lib.hid (show 0 ≤ z ∧ z < 4294967296 from by omega)
          have HZE := Lib.hid (show z = Op.cf (Op.mul a b) k % m from by
            have h := HZD.out
            rw [← Op.cf_mul] at h
            exact Op.dvd_small (by
              have h1 := Op.dvd_mod m (Op.cf (Op.mul a b) k)
              have e : z - Op.cf (Op.mul a b) k % m = (z - Op.cf (Op.mul a b) k) - (Op.cf (Op.mul a b) k % m - Op.cf (Op.mul a b) k) := by omega
              rw [e]; exact Int.dvd_sub h h1) ⟨hz0, hz1⟩ ⟨Int.emod_nonneg _ (by omega), Int.emod_lt_of_pos _ (by omega)⟩)
          go_wp2_with (at_builtin; refine wpList_app rfl (.tmp 39) (.tmp 42) rfl rfl w.heap.size (.slice vx pre.length vc) pre rfl (HO.out.alloc _) (.slice (some ⟨wr.heap.size, 0, none⟩) 1 1) [z] rfl (one_hasP' _ _ _ rfl HRB.out) HPL.out (Nat.le_trans hsz (Nat.le_of_lt (by simp))) ?_; intro v' w2 hown hgrow; have HO2 := Lib.hid hown; have HG2 := Lib.hid (show Gr w w2 from grown_own (HG.out.alloc _) (HO.out.alloc _) hgrow (Nat.le_refl _)); clear hown hgrow)
          go_roundw
          case rel => exact ⟨k + 1, pre ++ [z], by go_num, by omega, by rw [List.length_append, HP.out]; rfl, (fun i hi => by
              rw [Op.cf_append]
              by_cases h : i < pre.length
              · rw [if_pos h]; exact HPC.out i (by have := HP.out; omega)
              · rw [if_neg h]
                obtain rfl : i = k := by have := HP.out; omega
                rw [HP.out, Nat.sub_self]; exact HZE.out), HO2.out, HG2.out⟩
          case measure => simp [intOf]; omega
    · obtain rfl : k = la + lb := by omega
      have i2 : ¬ (((la + lb : Nat) : Int) < (la : Int) + (lb : Int)) := by omega
      have HNF := Lib.hid (show Op.tz pre = Op.nf m (Op.mul a b) from Op.tz_nf (fun i => by
        by_cases h : i < la + lb
        · exact HPC.out i h
        · rw [Op.cf_out (l := pre) (by rw [HP.out]; omega), Op.cf_mul_out (by rw [← HLA.out, ← HLB.out]; omega)]
          simp))
      go_wp2_with fail
      refine (trim5_any pre _ _ HO.out.hasP (by rw [HP.out]; omega)).mono ?_
      rintro e w2 ⟨x, j, c, rfl, hx, hfr, hg2⟩
      have H := Lib.hid (And.intro hx (And.intro hfr hg2))
      clear hx hfr hg2
      go_wp2_with fail
      go_ret
      obtain ⟨hx, hfr, hg2⟩ := H.out
      exact ⟨_, _, _, rfl, by rw [← HNF.out]; exact hx, (fun p hp => Nat.le_trans hsz (hfr p hp)), HG.out.trans hg2⟩

set_option maxRecDepth 100000 in
set_option maxHeartbeats 1000000 in
theorem power5_any (c : Int) (n : Nat) (w : World) (hc : 0 ≤ c ∧ c < 4294967296) (hn : n ≤ 100000) :
    Calls Try.prog 71 #[.int .u32 c, .int .i64 n] w (NewP (Op.sh n [c]) w) := by
  have hmk := mk_row (n + 1) ((n : Int) + 1) (by omega) (by omega)
  have HC := Lib.hid hc
  have i1 : (n : Int) < ((n + 1 : Nat) : Int) := by omega
  have hz := (Row.zeros w (n + 1)).cell (j := n) (by simp)
  rw [cf_rep] at hz
  have hf := (Row.zeros w (n + 1)).frozen n
  clear hc
  go_enter Try.func71, Try.ntmps71
  go_wp2_with fail
  go_ret
  have hU : Upd w.heap.size n [c] (w.alloc (.cells (zrow (n + 1)) 22)) ((w.alloc (.cells (zrow (n + 1)) 22)).setCell ⟨w.heap.size, n, none⟩ (.int .u32 c)) := by
    have h := (Upd.start (o := n) (Rw.new w (zrow (n + 1))) (by rw [zrow_size]; omega)).step (k := 0) (d := c) rfl (v := .int .u32 0) (by rw [Nat.add_zero]; exact hz)
    rw [Nat.add_zero] at h
    exact h
  have hl : ([c] : List Int).length = 1 := rfl
  have hR := (Row.zeros w (n + 1)).upd hU (U32.one HC.out) (by rw [hl]; simp)
  have he : put (List.replicate (n + 1) 0) n [c] = Op.sh n [c] := by
    apply Op.ext_cf
    · rw [put_len (by rw [hl]; simp), Op.sh_len]; simp
    · intro i
      rw [cf_put (by rw [hl]; simp), Op.cf_sh, cf_rep, hl]
      by_cases h1 : i < n
      · rw [if_neg (by omega), if_pos h1]
      · by_cases h2 : i = n
        · rw [if_pos (by omega), if_neg h1]
        · rw [if_neg (by omega), if_neg h1, Op.cf_out (l := [c]) (by rw [hl]; omega)]
  rw [he] at hR
  have hP := hR.hasP (cap := n + 1) (by rw [Op.sh_len, hl]; omega) (by omega)
  rw [Op.sh_len, hl] at hP
  have hG := hU.gr (Gr.new w _) (Nat.le_refl _)
  have ew : (w.alloc (.cells (zrow (n + 1)) 22)).setCell ⟨w.heap.size, n, none⟩ (.int .u32 c) = w.alloc (.cells ((zrow (n + 1)).setIfInBounds n (.int .u32 c)) 22) := by simp [go_sem]
  rw [ew] at hP hG
  exact ⟨_, _, _, rfl, hP, (fun p hp => by cases hp; exact Nat.le_refl _), hG⟩
end Go.Proofs.Ytaenjbemkeghgaa
