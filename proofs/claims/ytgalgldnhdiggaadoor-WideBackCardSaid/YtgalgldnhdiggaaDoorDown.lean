/- down: a quotient by a power of 2. -/
import Derived.Test.YtgalgldnhdiggaaDoorUp
namespace Ow
set_option linter.unusedVariables false
theorem or_above (x y : Nat) (hx : x < 4294967296) (hy : y < 4294967296) : x ||| y * 4294967296 = x + y * 4294967296 := by
  have := Nat.two_pow_add_eq_or_of_lt (i := 32) (show x < 2 ^ 32 by omega) y
  rw [Nat.or_comm, Nat.mul_comm, Nat.add_comm]
  exact this.symm
/-- A digit of the quotient, out of two digits. -/
theorem down_digit (l : List Nat) (F r k : Nat) (hr : r < 32) (hF : F = 2 ^ r) (hk : k < l.length) (hl : Dg l) :
    (digs l.length (val l / F))[k]?.getD 0 = (l[k]?.getD 0 + l[k + 1]?.getD 0 * 4294967296) / F % 4294967296 := by
  obtain ⟨G, hG⟩ : ∃ G, F * G = 4294967296 := ⟨2 ^ (32 - r), by rw [hF, ← Nat.pow_add, show r + (32 - r) = 32 by omega]⟩
  have hF0 : 0 < F := by rw [hF]; exact Nat.two_pow_pos r
  rw [digs_at _ _ _ hk, Nat.div_div_eq_div_mul, Nat.mul_comm F, ← Nat.div_div_eq_div_mul]
  have h1 := val_split k l (by omega)
  have h2 := val_lt _ (dg_take hl k)
  rw [List.length_take, Nat.min_eq_left (by omega)] at h2
  have h3 : val l / 4294967296 ^ k = val (l.drop k) := by
    rw [h1, Nat.add_comm, Nat.mul_add_div (Nat.pow_pos (by omega)), Nat.div_eq_of_lt h2, Nat.add_zero]
  rw [h3, drop_at hk]
  obtain ⟨R, hR⟩ : ∃ R, val (l.drop (k + 1)) = l[k + 1]?.getD 0 + 4294967296 * R := by
    by_cases h : k + 1 < l.length
    · exact ⟨_, drop_at h⟩
    · refine ⟨0, ?_⟩
      rw [List.drop_of_length_le (by omega), List.getElem?_eq_none (by omega)]; rfl
  rw [hR]
  generalize l[k]?.getD 0 = x
  generalize l[k + 1]?.getD 0 = y
  have e : x + 4294967296 * (y + 4294967296 * R) = F * (4294967296 * (G * R)) + (x + y * 4294967296) := by
    have : F * (4294967296 * (G * R)) = 4294967296 * (4294967296 * R) := by
      rw [Nat.mul_left_comm, ← Nat.mul_assoc F, hG]
    rw [this]; omega
  rw [e, Nat.mul_add_div hF0, Nat.mul_add_mod]
theorem take_snoc {l : List Nat} {k : Nat} (h : k < l.length) : l.take (k + 1) = l.take k ++ [l[k]?.getD 0] := by
  rw [List.take_succ_eq_append_getElem h, List.getElem?_eq_getElem h]; rfl
end Ow
namespace Go.Proofs.YtgalgldnhdiggaaDoor
open Go.RowKit
set_option linter.unusedVariables false

theorem or_digit2 (x y : Nat) (hx : x < 4294967296) (hy : y < 4294967296) : bits .or .u64 (x : Int) ((y : Int) * 4294967296) = ((x + y * 4294967296 : Nat) : Int) := by
  have h := bits_or_u64_nat x (y * 4294967296) (by omega) (by omega)
  rw [show ((y : Int) * 4294967296) = ((y * 4294967296 : Nat) : Int) by omega, h, Ow.or_above x y hx hy]

set_option maxRecDepth 100000 in
set_option maxHeartbeats 1000000 in
theorem down_any (l : List Nat) (v : Value) (s : Nat) (w : World) (hv : HasD w v l) (hl : l.length ≤ 100000) (hs : s ≤ 100000) :
    Calls Tryd.prog 94 #[v, .int .i64 s] w (DigPost (Ow.val l / 2 ^ s) w) := by
  obtain ⟨dv, b, cap, rfl, v1, v2, cv⟩ := hv
  obtain ⟨q, r, hsq, hr⟩ : ∃ q r, s = 32 * q + r ∧ r < 32 := ⟨s / 32, s % 32, by omega, by omega⟩
  have q1 : (s : Int) / 32 = (q : Int) := by omega
  have q2 : (s : Int) % 32 = (r : Int) := by omega
  obtain ⟨F, hF⟩ : ∃ F, F = 2 ^ r := ⟨_, rfl⟩
  have hF0 : 1 ≤ F := by rw [hF]; exact Nat.two_pow_pos r
  have hFb : F ≤ 2147483648 := by rw [hF]; exact Nat.pow_le_pow_right (by omega) (by omega : r ≤ 31)
  have hpow : 2 ^ s = 4294967296 ^ q * F := by rw [hF, hsq, Nat.pow_add, Nat.pow_mul]
  have hFi : (2 : Int) ^ r = (F : Int) := by rw [hF, Int.natCast_pow]; rfl
  by_cases hlen0 : l.length ≤ q
  · have hz : Ow.val l / 2 ^ s = 0 := by
      rw [Nat.div_eq_of_lt]
      have h1 := Ow.val_lt l dv
      have h2 : 4294967296 ^ l.length ≤ 4294967296 ^ q := Nat.pow_le_pow_right (by omega) hlen0
      have h3 : 4294967296 ^ q * 1 ≤ 4294967296 ^ q * F := Nat.mul_le_mul_left _ hF0
      rw [hpow]; omega
    have HZ := Lib.hid hz
    obtain ⟨len, hlen⟩ : ∃ len, len = l.length := ⟨_, rfl⟩
    rw [← hlen] at v1 hl hlen0 ⊢
    have t0 : decide ((len : Int) ≤ (q : Int)) = true := by simp; omega
    clear hz hpow hFi hF cv dv hlen hsq
    go_enter Tryd.func94, Tryd.ntmps94
    go_wp2_with fail
    go_ret
    exact ⟨_, [], rfl, HasD.nil _, ⟨Ow.dg_nil, rfl⟩, HZ.out.symm, Gr.refl _⟩
  · obtain ⟨n, hn⟩ : ∃ n, l.length = q + n := ⟨l.length - q, by omega⟩
    obtain ⟨cp, hcp⟩ : ∃ cp, cap = q + cp := ⟨cap - q, by omega⟩
    obtain ⟨m, hm⟩ : ∃ m, m = l.drop q := ⟨_, rfl⟩
    have hmlen : m.length = n := by rw [hm, List.length_drop]; omega
    have hmd : Ow.Dg m := by rw [hm]; exact fun x hx => dv x (List.mem_of_mem_drop hx)
    have hmat : ∀ k, m[k]?.getD 0 = l[q + k]?.getD 0 := fun k => by rw [hm, List.getElem?_drop]
    have hval : Ow.val l / 2 ^ s = Ow.val m / F := by
      have h1 := Ow.val_split q l (by omega)
      have h2 := Ow.val_lt _ (Ow.dg_take dv q)
      rw [List.length_take, Nat.min_eq_left (by omega)] at h2
      rw [hpow, ← Nat.div_div_eq_div_mul, h1, Nat.add_comm, Nat.mul_add_div (Nat.pow_pos (by omega)), Nat.div_eq_of_lt h2, Nat.add_zero, hm]
    have hn0 : 0 < n := by omega
    obtain ⟨gb, ob, rfl, -⟩ := cv 0 (by omega)
    have hcv : ∀ k, k < n → w.cell? ⟨gb, ob + q + k, none⟩ = some (.int .u32 ((m[k]?.getD 0 : Nat) : Int)) := fun k hk => by
      obtain ⟨g', o', e, hc⟩ := cv (q + k) (by omega)
      cases e
      rw [hmat, Nat.add_assoc]; exact hc
    rw [hn] at v1 hl hlen0 ⊢
    subst hcp
    rw [hval]
    have HCV := Lib.hid hcv
    have HMD := Lib.hid hmd
    have HML := Lib.hid hmlen
    have HFE := Lib.hid hF
    have t0 : decide (((q + n : Nat) : Int) ≤ (q : Int)) = false := by simp; omega
    have t1 : decide ((q : Int) + (n : Int) ≤ (q : Int)) = false := by simp; omega
    have hmk := mk_row n (n : Int) rfl (by omega)
    clear hval hpow hF cv dv hn hm hmlen hmd hmat hcv hlen0 hsq
    go_enter Tryd.func94, Tryd.ntmps94
    go_wp2_with fail
    clear hmk
    have hrow := Rw.new w (zrow n)
    have g1 : Gr w (w.alloc (.cells (zrow n) 59)) := Gr.new _ _
    have hzs := zrow_size n
    have hz : ∀ k, k < n → (w.alloc (.cells (zrow n) 59)).cell? ⟨w.heap.size, 0 + k, none⟩ = some (.int .u32 0) := fun k hk => by
      rw [Nat.zero_add, hrow.cell, zrow_at _ _ hk]
    obtain ⟨W, hW⟩ : ∃ W, W = w.alloc (.cells (zrow n) 59) := ⟨_, rfl⟩
    rw [← hW] at hrow g1 hz ⊢
    clear hW
    have HROW := Lib.hid hrow
    have HZ := Lib.hid hz
    have HG := Lib.hid g1
    have HZS := Lib.hid hzs
    clear hrow hz g1 hzs t0 t1 q1
    obtain ⟨D, hD⟩ : ∃ D, D = Ow.digs n (Ow.val m / F) := ⟨_, rfl⟩
    have hDl : D.length = n := by rw [hD, Ow.digs_len]
    have hDat : ∀ k, k < n → D[k]?.getD 0 = (m[k]?.getD 0 + m[k + 1]?.getD 0 * 4294967296) / F % 4294967296 := fun k hk => by
      have := Ow.down_digit m F r k hr HFE.out (by rw [HML.out]; exact hk) HMD.out
      rw [HML.out] at this
      rw [hD, this]
    have HDA := Lib.hid hDat
    have HDL := Lib.hid hDl
    have HDE := Lib.hid hD
    clear hDat hDl hD
    go_loopw [23] (fun i wr => ∃ k, i = .int .i64 (k : Nat) ∧ k ≤ n ∧ Upd w.heap.size 0 (D.take k) W wr) (fun i _ => n - (intOf i).toNat)
    case atStart => exact ⟨0, rfl, by omega, Upd.start HROW.out (by omega)⟩
    case round =>
      obtain ⟨k, rfl, hk, hupd⟩ := hrel
      have HU := Lib.hid hupd
      have HPL := Lib.hid (show (D.take k).length = k by rw [List.length_take, HDL.out]; omega)
      clear hupd
      by_cases hlt : k < n
      · have c2 := HCV.out k hlt
        have hgb : gb < w.heap.size := World.block_lt_of_cell? w _ c2
        have c2 := HG.out.keeps c2
        have c2 : wr.cell? ⟨gb, ob + q + k, none⟩ = _ := (HU.out.cell_other (p := ⟨gb, ob + q + k, none⟩) (fun e => by simp only at e; omega)).trans c2
        have HC1 := Lib.hid (HZ.out k hlt)
        have c1 : wr.cell? ⟨w.heap.size, 0 + k, none⟩ = some (.int .u32 0) := (HU.out.cell_out (.inr (by rw [HPL.out]; omega))).trans (HZ.out k hlt)
        rw [Nat.zero_add] at c1
        have f1 : wr.frozen? ⟨w.heap.size, k, none⟩ = false := HU.out.frozen _
        have hx := Ow.dg_at HMD.out k
        have hy := Ow.dg_at HMD.out (k + 1)
        have hd := HDA.out k hlt
        have HST := Lib.hid (Ow.take_snoc (l := D) (k := k) (by rw [HDL.out]; exact hlt))
        by_cases hlast : k + 1 < n
        · have c3 := HCV.out (k + 1) hlast
          have c3 := HG.out.keeps c3
          have c3 : wr.cell? ⟨gb, ob + q + (k + 1), none⟩ = _ := (HU.out.cell_other (p := ⟨gb, ob + q + (k + 1), none⟩) (fun e => by simp only at e; omega)).trans c3
          obtain ⟨x, hxe⟩ : ∃ x, x = m[k]?.getD 0 := ⟨_, rfl⟩
          obtain ⟨y, hye⟩ : ∃ y, y = m[k + 1]?.getD 0 := ⟨_, rfl⟩
          rw [← hxe] at c2 hx hd
          rw [← hye] at c3 hy hd
          clear hxe hye
          have t1 : decide ((k : Int) + 1 < (n : Int)) = true := by simp; omega
          have hor := or_digit2 x y hx hy
          obtain ⟨p, hp⟩ : ∃ p, p = x + y * 4294967296 := ⟨_, rfl⟩
          rw [← hp] at hor hd
          have hpb : p ≤ 18446744073709551615 := by omega
          have E1 := Lib.hid (show ((D[k]?.getD 0 : Nat) : Int) = (p : Int) / (F : Int) % 4294967296 by rw [hd, Int.natCast_emod, Int.natCast_ediv]; rfl)
          clear hp hd
          have i5 : (k : Int) < (n : Int) := by omega
          have i6 : (0 : Int) ≤ (k : Int) := by omega
          go_wp2_with fail
          go_roundw
          case rel => exact ⟨k + 1, by go_num, by omega, by rw [HST.out]; have h := HU.out.step (d := D[k]?.getD 0) HPL.out HC1.out; rw [Nat.zero_add, E1.out] at h; exact h⟩
          case measure => simp [intOf]; omega
        · obtain ⟨x, hxe⟩ : ∃ x, x = m[k]?.getD 0 := ⟨_, rfl⟩
          have hy0 : m[k + 1]?.getD 0 = 0 := by rw [List.getElem?_eq_none (by rw [HML.out]; omega)]; rfl
          rw [← hxe] at c2 hx hd
          rw [hy0, Nat.zero_mul, Nat.add_zero] at hd
          clear hxe hy0 hy
          have t1 : decide ((k : Int) + 1 < (n : Int)) = false := by simp; omega
          have E1 := Lib.hid (show ((D[k]?.getD 0 : Nat) : Int) = (x : Int) / (F : Int) % 4294967296 by rw [hd, Int.natCast_emod, Int.natCast_ediv]; rfl)
          clear hd
          have i5 : (k : Int) < (n : Int) := by omega
          have i6 : (0 : Int) ≤ (k : Int) := by omega
          go_wp2_with fail
          go_roundw
          case rel => exact ⟨k + 1, by go_num, by omega, by rw [HST.out]; have h := HU.out.step (d := D[k]?.getD 0) HPL.out HC1.out; rw [Nat.zero_add, E1.out] at h; exact h⟩
          case measure => simp [intOf]; omega
      · obtain rfl : k = n := by omega
        have hu := HU.out
        rw [List.take_of_length_le (by rw [HDL.out]; exact Nat.le_refl _)] at hu
        have hDd : Ow.Dg D := by rw [HDE.out]; exact Ow.digs_dg _ _
        have hd := hu.hasD (w := w) (cap := k) hDd (by rw [HDL.out]; exact Nat.le_refl _) (by omega)
        rw [HDL.out] at hd
        have HD := Lib.hid hd
        have HGG := Lib.hid (hu.gr HG.out (Nat.le_refl _))
        have HDD := Lib.hid hDd
        have HDV := Lib.hid (show Ow.val D = Ow.val m / F by
          rw [HDE.out]
          exact Ow.digs_val _ _ (by
            have := Ow.val_lt m HMD.out
            rw [HML.out] at this
            exact Nat.lt_of_le_of_lt (Nat.div_le_self _ _) this))
        clear hd hu hDd
        go_wp2_with fail
        refine (trim_any D _ _ HD.out).mono ?_
        rintro e w4 ⟨⟨v3, rfl, hcut⟩, rfl⟩
        have HCUT := Lib.hid hcut
        clear hcut
        go_wp2_with fail
        go_ret
        exact ⟨_, Ow.tr D, rfl, HCUT.out _ HD.out, Ow.nm_tr HDD.out, by rw [Ow.val_tr]; exact HDV.out, HGG.out⟩
end Go.Proofs.YtgalgldnhdiggaaDoor
