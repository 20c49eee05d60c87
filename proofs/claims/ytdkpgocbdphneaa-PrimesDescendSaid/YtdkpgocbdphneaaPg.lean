/- The reference's Chain. -/
import Derived.Test.YtdkpgocbdphneaaPe
namespace Go.Proofs.Ytdkpgocbdphneaa
open Go.RowKit Go.Shelf
set_option linter.unusedVariables false

theorem infoU32 : (Try.prog.info? 22).map (fun i => (i.zero, i.size, i.bytes)) = some (some (.int .u32 0), 1, 4) := by kernel_rfl
theorem one_new (w : World) (a : Value) (t : TypeId) (j : Nat) (u : Value) (h : [a][j]? = some u) : (w.alloc (.cells #[a] t)).cell? (Addr.add ⟨w.heap.size, 0, none⟩ j) = some u := by
  rcases j with _ | j
  · simp at h; subst h; simp [go_sem, Addr.add]
  · simp at h
theorem wcells_snoc (l : List Nat) (x : Nat) : wcells (l ++ [x]) = wcells l ++ [.int .u32 (x : Nat)] := by simp [wcells]

theorem own_gr {w w' : World} {base : Nat} {e : TypeId} {size n : Nat} {v : Value} {xs : List Value} (h : w.ownsRow base e size v n xs) (hg : Gr w w') : w'.ownsRow base e size v n xs := by
  refine ⟨h.1, ?_⟩
  rcases h.2 with h | ⟨g, cap, cur, e1, h1, h2, h3⟩
  · exact .inl h
  · exact .inr ⟨g, cap, cur, e1, h1, (hg.block g (Array.getElem?_eq_some_iff.1 h2).1).trans h2, h3⟩

/-- How far the list of a chain is. -/
def Gone (s K C : Nat) (k : Nat) (acc : List Nat) : Prop := acc.length ≤ C ∧ k ≤ K ∧ acc ++ Ob.pick s k (C - acc.length) = Ob.pick s K C
theorem Gone.start (s K C : Nat) : Gone s K C K [] := ⟨by simp, Nat.le_refl _, by simp⟩
theorem Gone.yes {s K C k : Nat} {acc : List Nat} (h : Gone s K C k acc) (hk : 1 ≤ k) (hl : acc.length < C) (hb : 1073741824 < k * s + 1) (hp : Ob.Pr (k * s + 1)) : Gone s K C (k - 1) (acc ++ [k * s + 1]) := by
  obtain ⟨h1, h2, h3⟩ := h
  refine ⟨by simp; omega, by omega, ?_⟩
  rw [← h3, Ob.pick_yes hk (by omega) (by omega) hp, List.append_assoc, List.length_append, List.length_singleton, Nat.sub_add_eq]; rfl
theorem Gone.no {s K C k : Nat} {acc : List Nat} (h : Gone s K C k acc) (hk : 1 ≤ k) (hp : ¬ Ob.Pr (k * s + 1)) : Gone s K C (k - 1) acc := by
  obtain ⟨h1, h2, h3⟩ := h
  refine ⟨h1, by omega, ?_⟩
  rw [← h3, Ob.pick_no hk hp]
theorem Gone.end {s K C k : Nat} {acc : List Nat} (h : Gone s K C k acc) (he : ¬ (1073741824 < k * s + 1 ∧ acc.length < C)) : acc = Ob.pick s K C := by
  obtain ⟨h1, h2, h3⟩ := h
  have : Ob.pick s k (C - acc.length) = [] := by
    by_cases hb : 1073741824 < k * s + 1
    · rw [show C - acc.length = 0 by omega]; exact Ob.pick_done s k
    · exact Ob.pick_low (by omega)
  rw [this, List.append_nil] at h3
  exact h3

set_option maxRecDepth 100000 in
set_option maxHeartbeats 2000000 in
theorem rchain_ok (n : Int) (t : Nat) (c : Int) (w : World) (h : ChainOk n t c) :
    Calls Try.prog 14 #[.int .i64 n, .int .u32 t, .int .i64 c] w (ChainPost n t c w) := by
  have HOK := Lib.hid h
  obtain ⟨hd, h3, hm, ho, hc1, hc2⟩ := h
  have HD := Lib.hid hd
  obtain ⟨m, rfl⟩ : ∃ m : Nat, n = (m : Int) := ⟨n.toNat, by unfold Dim at hd; omega⟩
  obtain ⟨C, rfl⟩ : ∃ C : Nat, c = (C : Int) := ⟨c.toNat, by omega⟩
  have hm1 : 4 ≤ m := by unfold Dim at hd; omega
  have hm2 : m ≤ 32 := by unfold Dim at hd; omega
  obtain ⟨s, hs⟩ : ∃ s, s = 2 * m * t := ⟨_, rfl⟩
  have HS := Lib.hid hs
  have hsi : 2 * (m : Int) * (t : Int) = (s : Int) := by rw [hs, Int.natCast_mul, Int.natCast_mul]; rfl
  have hs1 : 1 ≤ s := by rw [hs]; exact Nat.mul_pos (by omega) (by omega)
  have hs2 : s ≤ 137438953408 := by rw [hs]; exact Nat.mul_le_mul (show 2 * m ≤ 64 by omega) hm
  clear hs hd
  obtain ⟨i0, hi, hz0, hz1, hz2⟩ := info_parts infoU32
  obtain ⟨K, hK⟩ : ∃ K, K = (2147483648 - 2) / s := ⟨_, rfl⟩
  have hKi : (2147483646 : Int) / (s : Int) = (K : Int) := by rw [hK, Int.natCast_ediv]; rfl
  have hK2 : K ≤ 2147483646 := by rw [hK]; exact Nat.div_le_self _ _
  have hKs : K * s ≤ 2147483646 := by rw [hK]; exact Nat.div_mul_le_self _ _
  have HK := Lib.hid hK
  clear hK
  have d0 : 0 ≤ (2147483646 : Int) / (s : Int) := by rw [hKi]; omega
  have d1 : (2147483646 : Int) / (s : Int) ≤ 2147483646 := by rw [hKi]; omega
  have hfin : chainOf (m : Int) t (C : Int) = Ob.pick s K C := by
    unfold chainOf chainStep; rw [HK.out, HS.out]; rfl
  have HF := Lib.hid hfin
  clear hfin
  have HKI := Lib.hid hKi
  clear hKi
  have t2 : ((t : Int) % 2 == 0) = false := by simp; omega
  clear ho
  go_enter Try.func14, Try.ntmps14
  go_wp2_with fail
  refine (rdim_any (m : Int) _).mono ?_
  rintro e w1 ⟨r, rfl, hr, rfl⟩
  obtain rfl : r = true := hr.2 HD.out
  clear hr
  go_wp2_with fail
  rw [HKI.out]
  clear hsi d0 d1 t2
  go_loopw [9, 10] (fun v x wr => ∃ (k : Nat) (acc : List Nat), x = .int .u64 k ∧ Gone s K C k acc ∧ wr.ownsRow w.heap.size 22 1 v acc.length (wcells acc) ∧ Gr w wr) (fun _ x _ => (intOf x).toNat)
  case atStart => exact ⟨K, [], rfl, Gone.start _ _ _, World.ownsRow_nil _ _ _ _, Gr.refl _⟩
  case round =>
    obtain ⟨wo, rfl⟩ : ∃ wo : World, wo = wr := ⟨_, rfl⟩
    obtain ⟨k, acc, rfl, hgone, hown, hgr⟩ := hrel
    obtain ⟨av, cap, rfl, hcap1, hcap2, hcells⟩ := HasW.of_row hown
    have HOWN := Lib.hid hown
    have hkK := hgone.2.1
    have hal := hgone.1
    have HG := Lib.hid hgone
    have HCE := Lib.hid hcells
    have hks : k * s ≤ 2147483646 := Nat.le_trans (Nat.mul_le_mul_right s hkK) hKs
    clear hgone hown hcells
    have p0 : (0 : Int) ≤ (k : Int) * s := by rw [← Int.natCast_mul]; omega
    have p1 : (k : Int) * s ≤ 2147483646 := by rw [← Int.natCast_mul]; omega
    obtain ⟨len, hlen⟩ : ∃ len, len = acc.length := ⟨_, rfl⟩
    have HLEN := Lib.hid hlen
    rw [← hlen] at hal hcap1
    have hsz := hgr.size
    obtain ⟨v, hv⟩ : ∃ v, v = k * s + 1 := ⟨_, rfl⟩
    have hvi : (k : Int) * s + 1 = (v : Int) := by rw [hv, ← Int.natCast_mul]; omega
    have HV := Lib.hid hvi
    have HVN := Lib.hid hv
    by_cases hb : 1073741824 < v
    · have hk1 : 1 ≤ k := by
        rcases Nat.eq_zero_or_pos k with rfl | h
        · omega
        · exact h
      have q1 : 1073741824 < (k : Int) * s + 1 := by rw [hvi]; omega
      have hkk : k ≤ 2147483646 := by omega
      by_cases hl : len < C
      · rw [← hlen]
        have hb1 : acc.length + 1 ≤ maxLen := by unfold maxLen; omega
        have hb2 : (acc.length + 1) * 4 ≤ 140737488355328 := by omega
        have hv2 : v ≤ 2147483647 := by omega
        clear hv hvi hks hkK hlen
        go_wp2_with fail
        rw [HV.out]
        refine (rprime_pr v _ (by omega)).mono ?_
        rintro e w1 ⟨r, rfl, hr, g1⟩
        have HR := Lib.hid hr
        clear hr
        cases r with
        | true =>
          have HN := Lib.hid (HG.out.yes hk1 (by rw [← HLEN.out]; exact hl) (by rw [← HVN.out]; exact hb) (by rw [← HVN.out]; exact HR.out.1 (by simp)))
          have HOWN1 := Lib.hid (own_gr HOWN.out g1)
          have hgr1 := hgr.trans g1
          have hsz1 := hgr1.size
          rw [HLEN.out]
          go_wp2_with (at_builtin; refine wpList_append_own _ rfl _ _ 28 rfl w.heap.size 22 i0 (.int .u32 0) 1 4 Try.underlying28 hi hz0 hz1 hz2 rfl (by decide) _ _ _ rfl (HOWN1.out.alloc _) ⟨w1.heap.size, 0, none⟩ 1 1 [.int .u32 ((k : Int) * s + 1)] rfl rfl (cell_one_new _ _ _) (by simp [Value.oneCell']) hb1 hb2 (by simp; omega) ?_; intro v' w2 hown' hgrow _; have HOWN2 := Lib.hid hown'; have HG2 := Lib.hid (grown_row (hgr1.alloc _) HOWN1.out hgrow); clear hown' hgrow)
          go_roundw
          case rel => exact ⟨k - 1, acc ++ [k * s + 1], congrArg _ (by omega), HN.out, by rw [wcells_snoc, List.length_append, ← HVN.out, ← HV.out]; exact HOWN2.out, HG2.out⟩
          case measure => simp [intOf]; omega
        | false =>
          have HN := Lib.hid (HG.out.no hk1 (by rw [← HVN.out]; exact fun h => absurd (HR.out.2 h) (by simp)))
          have HOWN1 := Lib.hid (own_gr HOWN.out g1)
          go_wp2_with fail
          go_roundw
          case rel => exact ⟨k - 1, acc, congrArg _ (by omega), HN.out, by rw [← HLEN.out]; exact HLEN.out ▸ HOWN1.out, hgr.trans g1⟩
          case measure => simp [intOf]; omega
      · have he : len = C := by omega
        subst he
        have HE := Lib.hid (HG.out.end (by rw [← HLEN.out]; omega))
        clear hv hvi hks hkK hl
        rw [← hlen]
        clear hlen
        go_wp2_with fail
        go_ret2
        refine ⟨_, acc, 0, rfl, ?_, .inr (.inr ⟨HOK.out, ?_, ?_, rfl⟩), hgr⟩
        · have := HasW.of_row HOWN.out; rwa [← HLEN.out] at this
        · rw [HF.out, ← HE.out, Int.toNat_natCast]; exact HLEN.out.symm
        · rw [HF.out, HE.out]
    · have q1 : ¬ 1073741824 < (k : Int) * s + 1 := by rw [hvi]; omega
      have HE := Lib.hid (HG.out.end (by rw [← hv]; omega))
      clear hv hvi hks hkK
      rw [← hlen]
      clear hlen
      by_cases hl : len < C
      · go_wp2_with fail
        go_ret2
        exact ⟨_, [], 4, rfl, HasW.nil _, .inr (.inl ⟨HOK.out, by rw [HF.out, ← HE.out, ← HLEN.out, Int.toNat_natCast]; exact hl, rfl, rfl⟩), hgr⟩
      · go_wp2_with fail
        go_ret2
        refine ⟨_, acc, 0, rfl, ?_, .inr (.inr ⟨HOK.out, ?_, ?_, rfl⟩), hgr⟩
        · have := HasW.of_row HOWN.out; rwa [← HLEN.out] at this
        · rw [HF.out, ← HE.out, Int.toNat_natCast, ← HLEN.out]; omega
        · rw [HF.out, HE.out]
end Go.Proofs.Ytdkpgocbdphneaa
