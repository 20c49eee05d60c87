import Derived.Test.YtlfiakpmnkhcdaaGreatLJe
/- Package ring: products and automorphisms of rows. -/
namespace Oj
open Op
set_option linter.unusedVariables false
/-- What the program calculates with: the negative of a row, and the row. -/
def sg (n : Nat) (m : Int) (b : List Int) : List Int := Go.Proofs.YtlfiakpmnkhcdaaGreat.Mo.mulR n m (-1) b ++ b
theorem sg_len {n : Nat} {m : Int} {b : List Int} (hb : b.length = n) : (sg n m b).length = 2 * n := by
  rw [sg, List.length_append, Go.Proofs.YtlfiakpmnkhcdaaGreat.Mo.mulR_len, hb]; omega
theorem sg_at {n : Nat} {m : Int} {b : List Int} (hb : b.length = n) {k j : Nat} (hk : k < n) (hj : j < n) : m ∣ cf (sg n m b) (n + k - j) - sb n b k j := by
  unfold sg sb
  rw [cf_append, Go.Proofs.YtlfiakpmnkhcdaaGreat.Mo.mulR_len]
  by_cases h : j ≤ k
  · rw [if_pos h, if_neg (by omega), show n + k - j - n = k - j by omega, Int.sub_self]; exact ⟨0, by simp⟩
  · rw [if_neg h, if_pos (by omega)]
    unfold Go.Proofs.YtlfiakpmnkhcdaaGreat.Mo.mulR
    rw [rowL_at _ _ (by omega), show (-1 : Int) * cf b (n + k - j) = - cf b (n + k - j) by omega]
    exact dvd_mod m _
theorem np_sg {n : Nat} {m : Int} {a b : List Int} (hb : b.length = n) {k : Nat} (hk : k < n) : S n (fun j => cf a j * cf (sg n m b) (n + k - j)) % m = np n a b k % m := by
  have h : m ∣ S n (fun j => cf a j * cf (sg n m b) (n + k - j)) - np n a b k := by
    unfold np
    rw [← S_sub]
    refine S_dvd fun j hj => ?_
    rw [← Int.mul_sub]
    exact Int.dvd_mul_of_dvd_right (sg_at hb hk hj)
  exact (Int.emod_emod_of_dvd _ (Int.dvd_refl m)).symm.trans ((Int.emod_eq_emod_iff_emod_sub_eq_zero).2 (Int.emod_eq_zero_of_dvd (by
    rw [Int.emod_def]
    have e : S n (fun j => cf a j * cf (sg n m b) (n + k - j)) - m * (S n (fun j => cf a j * cf (sg n m b) (n + k - j)) / m) - np n a b k = (S n (fun j => cf a j * cf (sg n m b) (n + k - j)) - np n a b k) - m * (S n (fun j => cf a j * cf (sg n m b) (n + k - j)) / m) := by omega
    rw [e]; exact Int.dvd_sub h ⟨_, rfl⟩)))
end Oj
namespace Go.Proofs.YtlfiakpmnkhcdaaGreat.Mo
open Go.RowKit
set_option linter.unusedVariables false

theorem add64_run (x y : Nat) (hx : x < 18446744073709551616) (hy : y < 18446744073709551616) (w : World) : (callFunc 99 #[.int .u64 x, .int .u64 y, .int .u64 0]).run Tryz.prog w = .ok (.value (.tuple #[.int .u64 (((x + y) % 18446744073709551616 : Nat) : Int), .int .u64 (((x + y) / 18446744073709551616 : Nat) : Int)])) w := by
  rw [run_callFunc_extern Tryz.func99 (by kernel_rfl) (by kernel_rfl) (by kernel_rfl) (e := add64Entry) (by kernel_rfl), run_add64 (x : Int) (y : Int) 0 (by omega) (by omega) (by omega) (by omega)]
  have e1 : ((x : Int) + (y : Int) + 0) % 18446744073709551616 = (((x + y) % 18446744073709551616 : Nat) : Int) := by omega
  have e2 : ((x : Int) + (y : Int) + 0) / 18446744073709551616 = (((x + y) / 18446744073709551616 : Nat) : Int) := by omega
  rw [e1, e2]; rfl

set_option maxRecDepth 100000 in
set_option maxHeartbeats 4000000 in
theorem mproduct_any (M : Nat) (a b : List Int) (u v : Value) (w : World) (hm : okM' (M : Int)) (hu : HasP w u a) (hv : HasP w v b) (hl : a.length ≤ 1000) (hlb : b.length = a.length) :
    Calls Tryz.prog 68 #[.int .u32 M, u, v] w (OwnP (Oj.prodR a.length M a b) w) := by
  have ha32 := hu.1
  have hb32 := hv.1
  obtain ⟨-, xa, ca, rfl, a1, a2, -⟩ := id hu
  obtain ⟨-, xb, cb, rfl, b1, b2, -⟩ := id hv
  obtain ⟨n, hn⟩ : ∃ n, n = a.length := ⟨_, rfl⟩
  have HBL := Lib.hid (show b.length = n by rw [hlb, hn])
  rw [hlb, ← hn] at hv b1
  rw [hlb]
  rw [← hn] at hu a1 hl ⊢
  have HU := Lib.hid hu
  have HV := Lib.hid hv
  have HN := Lib.hid hn
  have HM := Lib.hid hm
  have HA3 := Lib.hid ha32
  have hm1 := hm.1
  have hm2 := hm.2
  have hmk := mk_row n (n : Int) rfl (by omega)
  have HSGL := Lib.hid (Oj.sg_len (m := M) HBL.out)
  clear hu hv hn hm ha32 hb32 hlb
  go_enter Tryz.func68, Tryz.ntmps68
  go_wp2_with fail
  refine (mmultiple_any M (-1) b _ _ HM.out ⟨by omega, by omega⟩ HV.out (by rw [HBL.out]; exact hl)).mono ?_
  rintro e w1 ⟨vm, rfl, hom, hg⟩
  rw [HBL.out] at hom
  have HOM := Lib.hid hom
  have HG1 := Lib.hid hg
  have HBV := Lib.hid (show HasP w1 (.slice xb n cb) b from HV.out.later hg)
  have HLN := Lib.hid (show (mulR n M (-1) b).length + b.length ≤ 1000000 by rw [mulR_len, HBL.out]; omega)
  clear hom hg
  go_wp2_with (at_builtin; refine wpList_app rfl (.tmp 20) (.tmp 21) rfl rfl w.heap.size _ _ rfl HOM.out _ b rfl HBV.out HLN.out HG1.out.size ?_; intro v' w2 hown hgrow; obtain ⟨xs, cs, hv', hs1, hs2⟩ := hown.form; rw [show (mulR n M (-1) b ++ b).length = 2 * n from HSGL.out] at hv'; subst hv'; have HS := Lib.hid hown; have HG2 := Lib.hid (grown_own HG1.out HOM.out hgrow (Nat.le_refl _)); clear hown hgrow hs1 hs2)
  clear hmk
  obtain ⟨W, hW⟩ : ∃ W : World, W = w2.alloc (.cells (zrow n) 22) := ⟨_, rfl⟩
  rw [← hW]
  have HR0 := Lib.hid (show Own1 W w.heap.size (.slice (some ⟨w2.heap.size, 0, none⟩) n n) (List.replicate n 0) by rw [hW]; exact own_zeros w2 n _ HG2.out.size (by omega))
  have HG0 := Lib.hid (show Gr w W by rw [hW]; exact HG2.out.trans (Gr.new w2 _))
  have HSP := Lib.hid (show HasP W (.slice xs (2 * n) cs) (Oj.sg n M b) from HS.out.hasP.later (by rw [hW]; exact Gr.new w2 _))
  have HSU := Lib.hid (show U32 (Oj.sg n M b) from HS.out.1)
  have hsz := HG2.out.size
  obtain ⟨RB, hRB⟩ : ∃ RB, RB = w2.heap.size := ⟨_, rfl⟩
  rw [← hRB] at HR0 hsz ⊢
  -- the row of signs lies in another block than the new row
  have HSR := Lib.hid (show 0 < 2 * n → ∀ p, xs = some p → p.block < RB from fun h p hp => by
    have h1 := HS.out.hasP.lt (by rw [show (mulR n M (-1) b ++ b).length = 2 * n from HSGL.out]; exact h) p.block (by subst hp; rfl)
    rw [hRB]; exact h1)
  clear hW hRB
  go_loopw [10, 11, 12, 13, 14, 15, 27] (fun _ _ _ _ _ _ t wr => ∃ (k : Nat) (cur : List Int), t = .int .i64 k ∧ k ≤ n ∧ cur.length = n ∧ (∀ j, j < k → Op.cf cur j = Oj.np n a b j % M) ∧ Own1 wr w.heap.size (.slice (some ⟨RB, 0, none⟩) n n) cur ∧ HasP wr (.slice xs (2 * n) cs) (Oj.sg n M b) ∧ Gr w wr) (fun _ _ _ _ _ _ t _ => n - (intOf t).toNat)
  case atStart => exact ⟨0, List.replicate n 0, rfl, by omega, by simp, fun j hj => by omega, HR0.out, HSP.out, HG0.out⟩
  case round =>
    obtain ⟨k, cur, rfl, hk, hcl, hcf, hrow, hsp, hg⟩ := hrel
    have HCL := Lib.hid hcl
    have HCF := Lib.hid hcf
    have HROW := Lib.hid hrow
    have HSG := Lib.hid hsp
    have HG := Lib.hid hg
    clear hcl hcf hrow hg hsp
    by_cases hlt : k < n
    · have hk1 : (k : Int) < (n : Int) := by omega
      go_wp2_with fail
      obtain ⟨wo, rfl⟩ : ∃ wo : World, wo = wr := ⟨_, rfl⟩
      go_loopw [11, 12, 13, 14, 15, 32] (fun h l _ _ _ t ws => ∃ i hi lo : Nat, t = .int .i64 i ∧ h = .int .u64 hi ∧ l = .int .u64 lo ∧ i ≤ n ∧ hi ≤ i ∧ lo < 18446744073709551616 ∧ (hi : Int) * 18446744073709551616 + (lo : Int) = Op.S i (fun j => Op.cf a j * Op.cf (Oj.sg n M b) (n + k - j)) ∧ ws = wo) (fun _ _ _ _ _ t _ => n - (intOf t).toNat)
      case atStart => exact ⟨0, 0, 0, rfl, rfl, rfl, by omega, by omega, by omega, by simp [Op.S], rfl⟩
      case round =>
        obtain ⟨i, hi, lo, rfl, rfl, rfl, hin, hhi, hlo, hT, rfl⟩ := hrel
        have HT := Lib.hid hT
        clear hT
        by_cases hil : i < n
        · have hi1 : (i : Int) < (n : Int) := by omega
          obtain ⟨q, hq⟩ : ∃ q, q = n + k - i := ⟨_, rfl⟩
          have hqi : (n : Int) + (k : Int) - (i : Int) = (q : Int) := by omega
          have hq0 : (0 : Int) ≤ (q : Int) := by omega
          have hq1 : (q : Int) < ((2 * n : Nat) : Int) := by omega
          have hq2 : (q : Int) < 2 * (n : Int) := by omega
          obtain ⟨gx, ox, rfl, hcx⟩ := (HU.out.later HG.out).at_ (i := i) (by rw [← HN.out]; exact hil)
          obtain ⟨gy, oy, rfl, hcy⟩ := HSG.out.at_ (i := q) (by rw [HSGL.out]; omega)
          obtain ⟨x0, x1⟩ := HA3.out.at_ i
          obtain ⟨y0, y1⟩ := HSU.out.at_ q
          obtain ⟨x, hx⟩ : ∃ x, x = Op.cf a i := ⟨_, rfl⟩
          obtain ⟨y, hy⟩ : ∃ y, y = Op.cf (Oj.sg n M b) q := ⟨_, rfl⟩
          rw [← hx] at hcx x0 x1
          rw [← hy] at hcy y0 y1
          have p0 := mul_lo x0 y0
          have p1 := mul_hi x0 y0 (by omega) (by omega)
          obtain ⟨P, hP⟩ := Int.eq_ofNat_of_zero_le p0
          rw [hP] at p1
          have hPl : P < 18446744073709551616 := by omega
          have hadd := add64_run lo P hlo hPl
          obtain ⟨lo2, hlo2⟩ : ∃ z, z = (lo + P) % 18446744073709551616 := ⟨_, rfl⟩
          obtain ⟨c2, hc2⟩ : ∃ z, z = (lo + P) / 18446744073709551616 := ⟨_, rfl⟩
          have b1 : lo2 < 18446744073709551616 := by omega
          have b2 : c2 ≤ 1 := by omega
          have hs : lo + P = c2 * 18446744073709551616 + lo2 := by omega
          rw [← hlo2, ← hc2] at hadd
          have HT2 := Lib.hid (show ((hi + c2 : Nat) : Int) * 18446744073709551616 + (lo2 : Int) = Op.S (i + 1) (fun j => Op.cf a j * Op.cf (Oj.sg n M b) (n + k - j)) from by
            rw [Op.S, ← HT.out, ← hq, ← hx, ← hy, hP]; omega)
          have HIH := Lib.hid (show hi + c2 ≤ i + 1 by omega)
          clear hq hx hy hs hlo2 hc2
          go_wp2_with fail
          clear hadd
          go_roundw
          case rel => exact ⟨i + 1, hi + c2, lo2, by go_num, by go_num, rfl, by omega, HIH.out, b1, HT2.out, trivial⟩
          case measure => simp [intOf]; omega
        · obtain rfl : i = n := by omega
          have hi1 : ¬ (i : Int) < (i : Int) := by omega
          go_wp2_with fail
          refine (rem64_any hi lo M _ (by omega) hlo (by omega) (by omega)).mono ?_
          rintro e w3 ⟨R, rfl, hR, hg3⟩
          have HG3 := Lib.hid (HG.out.trans hg3)
          have HR3 := Lib.hid (HROW.out.gr hg3)
          have HS3 := Lib.hid (HSG.out.later hg3)
          have hRl : R < M := by rw [hR]; exact Nat.mod_lt _ (by omega)
          have HRE := Lib.hid (show (R : Int) = Oj.np i a b k % M from by
            rw [← Oj.np_sg HBL.out hlt, ← HT.out, hR, Int.natCast_emod, Int.natCast_add, Int.natCast_mul]; rfl)
          have HST := Lib.hid (row_set (y := (R : Int)) HCL.out hlt HCF.out HRE.out)
          have hc := HR3.out.cell (j := k) (by rw [HCL.out]; exact hlt)
          have hfz := HR3.out.frz (by rw [HCL.out]; omega) k
          have HNW := Lib.hid (HR3.out.set (j := k) (by rw [HCL.out]; exact hlt) (x := (R : Int)) (by omega))
          have HSN := Lib.hid (show HasP (w3.setCell ⟨RB, k, none⟩ (.int .u32 R)) (.slice xs (2 * i) cs) (Oj.sg i M b) from HS3.out.grown (grown_cell w3 RB k _) (fun h0 p hp e => by
            cases xs with
            | none => simp [Value.ownBlock] at hp
            | some z =>
              have h1 := HSR.out (by omega) z rfl
              simp [Value.ownBlock] at hp
              cases e; omega))
          clear hg3 hR
          go_wp2_with fail
          go_roundw
          case rel => exact ⟨k + 1, cur.set k R, by go_num, by omega, HST.out.1, HST.out.2, HNW.out.1, HSN.out, HG3.out.setCell (show w.heap.size ≤ RB from hsz) _⟩
          case measure => simp [intOf]; omega
    · obtain rfl : k = n := by omega
      have hk1 : ¬ (k : Int) < (k : Int) := by omega
      go_wp2_with fail
      go_ret
      have he : cur = Oj.prodR k M a b := row_done HCL.out HCF.out
      rw [← he]
      exact ⟨_, rfl, HROW.out, HG.out⟩

end Go.Proofs.YtlfiakpmnkhcdaaGreat.Mo
