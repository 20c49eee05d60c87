/- DivMod, PowMod, Wrap, Eval. -/
import Derived.Test.YtaenjbemkeghgaaPexp
namespace Go.Proofs.Ytaenjbemkeghgaa
open Go.RowKit
set_option linter.unusedVariables false

/-- The last element is a unit. -/
def divU (m : Int) (b : List Int) : Prop := b ≠ [] ∧ Op.Un m (Op.ld b)
/-- Quotient, rest and error of DivMod. -/
def DivR (m : Int) (a b q r : List Int) (E : Int) : Prop :=
  (E = checkE m [a, b] ∧ E ≠ 0 ∧ q = [] ∧ r = []) ∨ (checkE m [a, b] = 0 ∧ ¬ divU m b ∧ E = 7 ∧ q = [] ∧ r = []) ∨ (checkE m [a, b] = 0 ∧ divU m b ∧ E = 0 ∧ Op.Dv m a b q r)
theorem DivR.unique {m : Int} {a b q r q' r' : List Int} {E E' : Int} (hU : U32 a) (hU' : U32 b) (h : DivR m a b q r E) (k : DivR m a b q' r' E') : q = q' ∧ r = r' ∧ E = E' := by
  rcases h with ⟨h1, h2, h3, h4⟩ | ⟨h1, h2, h3, h4, h5⟩ | ⟨h1, h2, h3, h4⟩ <;> rcases k with ⟨k1, k2, k3, k4⟩ | ⟨k1, k2, k3, k4, k5⟩ | ⟨k1, k2, k3, k4⟩
  · exact ⟨h3.trans k3.symm, h4.trans k4.symm, h1.trans k1.symm⟩
  · omega
  · omega
  · omega
  · exact ⟨h4.trans k4.symm, h5.trans k5.symm, h3.trans k3.symm⟩
  · exact absurd k2 h2
  · omega
  · exact absurd h2 k2
  · have hm := ((checkE_two hU hU').1 h1).1
    unfold okM at hm
    have := Op.Dv.unique (by omega) h2.2 (Op.Cg.refl m a) h4 k4
    exact ⟨this.1, this.2, h3.trans k3.symm⟩
def DivE (m : Int) (a b : List Int) (w : World) (e : Ending) (w' : World) : Prop :=
  ∃ x1 n1 c1 x2 n2 c2 q r E, e = .returned (.tuple #[.slice x1 n1 c1, .slice x2 n2 c2, .int .i64 E]) ∧ HasP w' (.slice x1 n1 c1) q ∧ HasP w' (.slice x2 n2 c2) r ∧ DivR m a b q r E ∧
    (∀ p, x1 = some p → w.heap.size ≤ p.block) ∧ (∀ p, x2 = some p → w.heap.size ≤ p.block) ∧ Gr w w'

set_option maxRecDepth 100000 in
set_option maxHeartbeats 1000000 in
theorem pDivMod_any (m : Int) (a b : List Int) (u v : Value) (w : World) (hu : HasP w u a) (hv : HasP w v b) (hla : a.length ≤ 1000) (hlb : b.length ≤ 1000) :
    Calls Try.prog 29 #[.int .u32 m, u, v] w (DivE m a b w) := by
  obtain ⟨-, xa, ca, rfl, -, -, -⟩ := id hu
  obtain ⟨-, xb, cb, rfl, -, -, -⟩ := id hv
  obtain ⟨na, hna⟩ : ∃ na, na = a.length := ⟨_, rfl⟩
  obtain ⟨nb, hnb⟩ : ∃ nb, nb = b.length := ⟨_, rfl⟩
  rw [← hna] at hu ⊢
  rw [← hnb] at hv ⊢
  have HU := Lib.hid hu
  have HV := Lib.hid hv
  have HNB := Lib.hid hnb
  have HLA := Lib.hid hla
  have HLB := Lib.hid hlb
  have HLL := Lib.hid (show ∀ l ∈ [a, b], l.length ≤ 9223372036854775807 from fun l hl => by simp at hl; rcases hl with rfl | rfl <;> omega)
  have HIFF := Lib.hid (checkE_two (m := m) hu.1 hv.1)
  obtain ⟨E, hE⟩ : ∃ E, E = checkE m [a, b] := ⟨_, rfl⟩
  have HE := Lib.hid hE
  clear hu hv hla hlb hna hnb hE
  by_cases h0 : E = 0
  · subst h0
    have HOK := Lib.hid (HIFF.out.1 HE.out.symm)
    have HMB := Lib.hid (show 2 ≤ m ∧ m ≤ 2147483647 from HOK.out.1)
    by_cases hU : divU m b
    · have HDU := Lib.hid hU
      clear hU
      go_enter Try.func29, Try.ntmps29
      go_wp2_with fail
      refine (check_any m w.heap.size 2 _ [a, b] _ (ll_two HU.out HV.out _ rfl) (by omega) HLL.out).mono ?_
      rintro e w1 ⟨rfl, rfl⟩
      rw [← HE.out]
      go_wp2_with fail
      refine (divisor_ok m b _ _ HMB.out HOK.out.2.2.2.1 HDU.out.1 (HV.out.later (Gr.new w _)) HDU.out.2).mono ?_
      rintro e w1 ⟨rc, rfl, hr0, hr1, hr2, hg1⟩
      have HD := Lib.hid (show DvsOK m rc b from ⟨HMB.out, HOK.out.2.2.2.1, List.length_pos_iff.2 HDU.out.1, ⟨hr0, hr1⟩, hr2⟩)
      have HG1 := Lib.hid ((Gr.new w _).trans hg1)
      clear hr2 hg1
      go_wp2_with fail
      refine (divide_any m rc a b _ _ _ HD.out HOK.out.2.1.2 (HU.out.later (HG1.out.alloc _)) (HV.out.later (HG1.out.alloc _)) (by have := HLA.out; omega)).mono ?_
      rintro e w2 ⟨x1, n1, c1, x2, n2, c2, q, r, rfl, hq, hr, hdv, hf1, hf2, hg2⟩
      have H := Lib.hid (And.intro hq (And.intro hr (And.intro hdv (And.intro hf1 (And.intro hf2 hg2)))))
      clear hq hr hdv hf1 hf2 hg2
      go_wp2_with fail
      go_ret3
      obtain ⟨hq, hr, hdv, hf1, hf2, hg2⟩ := H.out
      have hs := (HG1.out.alloc (.cells #[.int .u32 m, .slice xb nb cb, .int .u32 rc] 56)).size
      exact ⟨_, _, _, _, _, _, q, r, 0, rfl, hq, hr, .inr (.inr ⟨HE.out.symm, HDU.out, rfl, hdv⟩), (fun p hp => Nat.le_trans hs (hf1 p hp)), (fun p hp => Nat.le_trans hs (hf2 p hp)), (HG1.out.alloc _).trans hg2⟩
    · have HDU := Lib.hid hU
      have HX := Lib.hid (fun (W : World) (hW : HasP W (.slice xb nb cb) b) => (show Calls Try.prog 52 #[.int .u32 m, .slice xb nb cb] W (DvsNo W) from by
        by_cases hb : b = []
        · exact divisor_empty m _ W (by rw [← hb]; exact hW)
        · exact divisor_none m b _ W HMB.out HOK.out.2.2.2.1 hb hW (fun h => HDU.out ⟨hb, h⟩)))
      clear hU
      go_enter Try.func29, Try.ntmps29
      go_wp2_with fail
      refine (check_any m w.heap.size 2 _ [a, b] _ (ll_two HU.out HV.out _ rfl) (by omega) HLL.out).mono ?_
      rintro e w1 ⟨rfl, rfl⟩
      rw [← HE.out]
      go_wp2_with fail
      refine (HX.out _ (HV.out.later (Gr.new w _))).mono ?_
      rintro e w1 ⟨p, ya, yn, yc, rfl, hg1⟩
      have HG1 := Lib.hid ((Gr.new w _).trans hg1)
      clear hg1
      go_wp2_with fail
      go_ret3
      exact ⟨_, _, _, _, _, _, [], [], 7, rfl, HasP.nil _, HasP.nil _, .inr (.inl ⟨HE.out.symm, HDU.out, rfl, rfl, rfl⟩), (fun p hp => by cases hp), (fun p hp => by cases hp), HG1.out.alloc _⟩
  · have hf : (E != 0) = true := by simp [h0]
    have H0 := Lib.hid h0
    go_enter Try.func29, Try.ntmps29
    go_wp2_with fail
    refine (check_any m w.heap.size 2 _ [a, b] _ (ll_two HU.out HV.out _ rfl) (by omega) HLL.out).mono ?_
    rintro e w1 ⟨rfl, rfl⟩
    rw [← HE.out]
    go_wp2_with fail
    go_ret3
    exact ⟨_, _, _, _, _, _, [], [], E, rfl, HasP.nil _, HasP.nil _, .inl ⟨HE.out, H0.out, rfl, rfl⟩, (fun p hp => by cases hp), (fun p hp => by cases hp), Gr.new w _⟩

/-- Result and error of PowMod. -/
def PowR (m : Int) (a f : List Int) (N : Nat) (r : List Int) (E : Int) : Prop :=
  (E = checkE m [a, f] ∧ E ≠ 0 ∧ r = []) ∨ (checkE m [a, f] = 0 ∧ ¬ divU m f ∧ E = 7 ∧ r = []) ∨ (checkE m [a, f] = 0 ∧ divU m f ∧ E = 0 ∧ Op.Rem m f (Op.pw a N) r)
theorem PowR.unique {m : Int} {a f r r' : List Int} {N : Nat} {E E' : Int} (hU : U32 a) (hU' : U32 f) (h : PowR m a f N r E) (k : PowR m a f N r' E') : r = r' ∧ E = E' := by
  rcases h with ⟨h1, h2, h3⟩ | ⟨h1, h2, h3, h4⟩ | ⟨h1, h2, h3, h4⟩ <;> rcases k with ⟨k1, k2, k3⟩ | ⟨k1, k2, k3, k4⟩ | ⟨k1, k2, k3, k4⟩
  · exact ⟨h3.trans k3.symm, h1.trans k1.symm⟩
  · omega
  · omega
  · omega
  · exact ⟨h4.trans k4.symm, h3.trans k3.symm⟩
  · exact absurd k2 h2
  · omega
  · exact absurd h2 k2
  · have hm := ((checkE_two hU hU').1 h1).1
    unfold okM at hm
    exact ⟨Op.Rem.unique (by omega) h2.2 h4 k4, h3.trans k3.symm⟩
/-- Numbers and an error that fit R are returned. -/
def NewE (R : List Int → Int → Prop) (w : World) (e : Ending) (w' : World) : Prop :=
  ∃ x n c l E, e = .returned (.tuple #[.slice x n c, .int .i64 E]) ∧ HasP w' (.slice x n c) l ∧ R l E ∧ (∀ p, x = some p → w.heap.size ≤ p.block) ∧ Gr w w'

set_option maxRecDepth 100000 in
set_option maxHeartbeats 1000000 in
theorem pPowMod_any (m : Int) (a b : List Int) (N : Nat) (u v : Value) (w : World) (hu : HasP w u a) (hv : HasP w v b) (hla : a.length ≤ 1000) (hlb : b.length ≤ 1000) (hN : N ≤ 18446744073709551615) :
    Calls Try.prog 33 #[.int .u32 m, u, .int .u64 N, v] w (NewE (PowR m a b N) w) := by
  obtain ⟨-, xa, ca, rfl, -, -, -⟩ := id hu
  obtain ⟨-, xb, cb, rfl, -, -, -⟩ := id hv
  obtain ⟨na, hna⟩ : ∃ na, na = a.length := ⟨_, rfl⟩
  obtain ⟨nb, hnb⟩ : ∃ nb, nb = b.length := ⟨_, rfl⟩
  rw [← hna] at hu ⊢
  rw [← hnb] at hv ⊢
  have HU := Lib.hid hu
  have HV := Lib.hid hv
  have HLA := Lib.hid hla
  have HLB := Lib.hid hlb
  have HNN := Lib.hid hN
  have HLL := Lib.hid (show ∀ l ∈ [a, b], l.length ≤ 9223372036854775807 from fun l hl => by simp at hl; rcases hl with rfl | rfl <;> omega)
  have HIFF := Lib.hid (checkE_two (m := m) hu.1 hv.1)
  obtain ⟨E, hE⟩ : ∃ E, E = checkE m [a, b] := ⟨_, rfl⟩
  have HE := Lib.hid hE
  clear hu hv hla hlb hna hnb hE hN
  by_cases h0 : E = 0
  · subst h0
    have HOK := Lib.hid (HIFF.out.1 HE.out.symm)
    have HMB := Lib.hid (show 2 ≤ m ∧ m ≤ 2147483647 from HOK.out.1)
    by_cases hU : divU m b
    · have HDU := Lib.hid hU
      clear hU
      go_enter Try.func33, Try.ntmps33
      go_wp2_with fail
      refine (check_any m w.heap.size 2 _ [a, b] _ (ll_two HU.out HV.out _ rfl) (by omega) HLL.out).mono ?_
      rintro e w1 ⟨rfl, rfl⟩
      rw [← HE.out]
      go_wp2_with fail
      refine (divisor_ok m b _ _ HMB.out HOK.out.2.2.2.1 HDU.out.1 (HV.out.later (Gr.new w _)) HDU.out.2).mono ?_
      rintro e w1 ⟨rc, rfl, hr0, hr1, hr2, hg1⟩
      have HD := Lib.hid (show DvsOK m rc b from ⟨HMB.out, HOK.out.2.2.2.1, List.length_pos_iff.2 HDU.out.1, ⟨hr0, hr1⟩, hr2⟩)
      have HG1 := Lib.hid ((Gr.new w _).trans hg1)
      clear hr2 hg1
      go_wp2_with fail
      refine (power_any' m rc a b N _ xb nb cb _ HD.out HOK.out.2.1.2 (HU.out.later (HG1.out.alloc _)) (HV.out.later (HG1.out.alloc _)) HLA.out HLB.out HNN.out).mono ?_
      rintro e w2 ⟨x1, n1, c1, r, rfl, hr, hrem, hf1, hg2⟩
      have H := Lib.hid (And.intro hr (And.intro hrem (And.intro hf1 hg2)))
      clear hr hrem hf1 hg2
      go_wp2_with fail
      go_ret2
      obtain ⟨hr, hrem, hf1, hg2⟩ := H.out
      have hs := (HG1.out.alloc (.cells #[.int .u32 m, .slice xb nb cb, .int .u32 rc] 56)).size
      exact ⟨_, _, _, r, 0, rfl, hr, .inr (.inr ⟨HE.out.symm, HDU.out, rfl, hrem⟩), (fun p hp => Nat.le_trans hs (hf1 p hp)), (HG1.out.alloc _).trans hg2⟩
    · have HDU := Lib.hid hU
      have HX := Lib.hid (fun (W : World) (hW : HasP W (.slice xb nb cb) b) => (show Calls Try.prog 52 #[.int .u32 m, .slice xb nb cb] W (DvsNo W) from by
        by_cases hb : b = []
        · exact divisor_empty m _ W (by rw [← hb]; exact hW)
        · exact divisor_none m b _ W HMB.out HOK.out.2.2.2.1 hb hW (fun h => HDU.out ⟨hb, h⟩)))
      clear hU
      go_enter Try.func33, Try.ntmps33
      go_wp2_with fail
      refine (check_any m w.heap.size 2 _ [a, b] _ (ll_two HU.out HV.out _ rfl) (by omega) HLL.out).mono ?_
      rintro e w1 ⟨rfl, rfl⟩
      rw [← HE.out]
      go_wp2_with fail
      refine (HX.out _ (HV.out.later (Gr.new w _))).mono ?_
      rintro e w1 ⟨p, ya, yn, yc, rfl, hg1⟩
      have HG1 := Lib.hid ((Gr.new w _).trans hg1)
      clear hg1
      go_wp2_with fail
      go_ret2
      exact ⟨_, _, _, [], 7, rfl, HasP.nil _, .inr (.inl ⟨HE.out.symm, HDU.out, rfl, rfl⟩), (fun p hp => by cases hp), HG1.out.alloc _⟩
  · have hf : (E != 0) = true := by simp [h0]
    have H0 := Lib.hid h0
    go_enter Try.func33, Try.ntmps33
    go_wp2_with fail
    refine (check_any m w.heap.size 2 _ [a, b] _ (ll_two HU.out HV.out _ rfl) (by omega) HLL.out).mono ?_
    rintro e w1 ⟨rfl, rfl⟩
    rw [← HE.out]
    go_wp2_with fail
    go_ret2
    exact ⟨_, _, _, [], E, rfl, HasP.nil _, .inl ⟨HE.out, H0.out, rfl⟩, (fun p hp => by cases hp), Gr.new w _⟩

/-- Result and error of Wrap. -/
def WrapR (m : Int) (a : List Int) (n : Int) (l : List Int) (E : Int) : Prop :=
  (E = checkE m [a] ∧ E ≠ 0 ∧ l = []) ∨ (checkE m [a] = 0 ∧ ¬ (1 ≤ n ∧ n ≤ 256) ∧ E = 2 ∧ l = []) ∨ (checkE m [a] = 0 ∧ (1 ≤ n ∧ n ≤ 256) ∧ E = 0 ∧ l.length = n.toNat ∧ Op.Rs m l ∧ Op.Wr m n.toNat a l)
theorem WrapR.unique {m n : Int} {a l l' : List Int} {E E' : Int} (hU : U32 a) (h : WrapR m a n l E) (k : WrapR m a n l' E') : l = l' ∧ E = E' := by
  rcases h with ⟨h1, h2, h3⟩ | ⟨h1, h2, h3, h4⟩ | ⟨h1, h2, h3, h4, h5, h6⟩ <;> rcases k with ⟨k1, k2, k3⟩ | ⟨k1, k2, k3, k4⟩ | ⟨k1, k2, k3, k4, k5, k6⟩
  · exact ⟨h3.trans k3.symm, h1.trans k1.symm⟩
  · omega
  · omega
  · omega
  · exact ⟨h4.trans k4.symm, h3.trans k3.symm⟩
  · omega
  · omega
  · omega
  · have hm := ((checkE_one hU).1 h1).1
    unfold okM at hm
    refine ⟨Op.ext_cf (h4.trans k4.symm) (Op.rs_eq (by omega) h5 k5 (Op.Wr.unique (n := n.toNat) (by omega) (by omega) (by omega) (Op.Cg.refl m a) h6 k6)), h3.trans k3.symm⟩

set_option maxRecDepth 100000 in
set_option maxHeartbeats 1000000 in
theorem pWrap_any (m n : Int) (a : List Int) (u : Value) (w : World) (hn : -9223372036854775808 ≤ n ∧ n ≤ 9223372036854775807) (hu : HasP w u a) (hla : a.length ≤ 1000) :
    Calls Try.prog 35 #[.int .u32 m, u, .int .i64 n] w (NewE (WrapR m a n) w) := by
  obtain ⟨-, xa, ca, rfl, -, -, -⟩ := id hu
  obtain ⟨na, hna⟩ : ∃ na, na = a.length := ⟨_, rfl⟩
  rw [← hna] at hu ⊢
  have HU := Lib.hid hu
  have HLL := Lib.hid (show ∀ l ∈ [a], l.length ≤ 9223372036854775807 from fun l hl => by simp at hl; subst hl; omega)
  have HIFF := Lib.hid (checkE_one (m := m) hu.1)
  obtain ⟨E, hE⟩ : ∃ E, E = checkE m [a] := ⟨_, rfl⟩
  have HE := Lib.hid hE
  obtain ⟨hn1, hn2⟩ := hn
  clear hu hna hE
  by_cases h0 : E = 0
  · subst h0
    have HOK := Lib.hid (HIFF.out.1 HE.out.symm)
    have HMB := Lib.hid (show 2 ≤ m ∧ m ≤ 2147483647 from HOK.out.1)
    by_cases h1 : n < 1
    · go_enter Try.func35, Try.ntmps35
      go_wp2_with fail
      refine (check_any m w.heap.size 1 _ [a] _ (ll_one HU.out _ rfl) (by omega) HLL.out).mono ?_
      rintro e w1 ⟨rfl, rfl⟩
      rw [← HE.out]
      go_wp2_with fail
      go_ret2
      exact ⟨_, _, _, [], 2, rfl, HasP.nil _, .inr (.inl ⟨HE.out.symm, (by omega), rfl, rfl⟩), (fun p hp => by cases hp), Gr.new w _⟩
    · by_cases h2 : 256 < n
      · go_enter Try.func35, Try.ntmps35
        go_wp2_with fail
        refine (check_any m w.heap.size 1 _ [a] _ (ll_one HU.out _ rfl) (by omega) HLL.out).mono ?_
        rintro e w1 ⟨rfl, rfl⟩
        rw [← HE.out]
        go_wp2_with fail
        go_ret2
        exact ⟨_, _, _, [], 2, rfl, HasP.nil _, .inr (.inl ⟨HE.out.symm, (by omega), rfl, rfl⟩), (fun p hp => by cases hp), Gr.new w _⟩
      · obtain ⟨k, rfl⟩ := Int.eq_ofNat_of_zero_le (show 0 ≤ n from by omega)
        go_enter Try.func35, Try.ntmps35
        go_wp2_with fail
        refine (check_any m w.heap.size 1 _ [a] _ (ll_one HU.out _ rfl) (by omega) HLL.out).mono ?_
        rintro e w1 ⟨rfl, rfl⟩
        rw [← HE.out]
        go_wp2_with fail
        refine (wrapped_any m k a _ _ (by have := HMB.out; omega) (by omega) (HU.out.later (Gr.new w _))).mono ?_
        rintro e w2 ⟨x, j, c, l, rfl, hx, hl, hrs, hwr, hfr, hg⟩
        have H := Lib.hid (And.intro hx (And.intro hl (And.intro hrs (And.intro hwr (And.intro hfr hg)))))
        clear hx hl hrs hwr hfr hg
        go_wp2_with fail
        go_ret2
        obtain ⟨hx, hl, hrs, hwr, hfr, hg⟩ := H.out
        exact ⟨_, _, _, l, 0, rfl, hx, .inr (.inr ⟨HE.out.symm, (by omega), rfl, hl, hrs, hwr⟩), (fun p hp => by have := hfr p hp; rw [World.size_alloc] at this; omega), (Gr.new w _).trans hg⟩
  · have hf : (E != 0) = true := by simp [h0]
    have H0 := Lib.hid h0
    go_enter Try.func35, Try.ntmps35
    go_wp2_with fail
    refine (check_any m w.heap.size 1 _ [a] _ (ll_one HU.out _ rfl) (by omega) HLL.out).mono ?_
    rintro e w1 ⟨rfl, rfl⟩
    rw [← HE.out]
    go_wp2_with fail
    go_ret2
    exact ⟨_, _, _, [], E, rfl, HasP.nil _, .inl ⟨HE.out, H0.out, rfl⟩, (fun p hp => by cases hp), Gr.new w _⟩

/-- Result and error of Eval. -/
def evE (m : Int) (a : List Int) (x : Int) : Int := if checkE m [a] = 0 then (if m ≤ x then 2 else 0) else checkE m [a]
def evV (m : Int) (a : List Int) (x : Int) : Int := if evE m a x = 0 then Op.ev a x % m else 0
set_option maxRecDepth 100000 in
set_option maxHeartbeats 1000000 in
theorem pEval_any (m x : Int) (a : List Int) (u : Value) (w : World) (hx : 0 ≤ x ∧ x < 4294967296) (hu : HasP w u a) (hla : a.length ≤ 1000) :
    Calls Try.prog 36 #[.int .u32 m, u, .int .u32 x] w (fun e w' => e = .returned (.tuple #[.int .u32 (evV m a x), .int .i64 (evE m a x)]) ∧ Gr w w') := by
  obtain ⟨-, xa, ca, rfl, -, -, -⟩ := id hu
  obtain ⟨na, hna⟩ : ∃ na, na = a.length := ⟨_, rfl⟩
  rw [← hna] at hu ⊢
  have HU := Lib.hid hu
  have HXB := Lib.hid hx
  have HLL := Lib.hid (show ∀ l ∈ [a], l.length ≤ 9223372036854775807 from fun l hl => by simp at hl; subst hl; omega)
  have HIFF := Lib.hid (checkE_one (m := m) hu.1)
  obtain ⟨E, hE⟩ : ∃ E, E = checkE m [a] := ⟨_, rfl⟩
  have HE := Lib.hid hE
  clear hu hna hE hx
  by_cases h0 : E = 0
  · subst h0
    have HOK := Lib.hid (HIFF.out.1 HE.out.symm)
    have HMB := Lib.hid (show 2 ≤ m ∧ m ≤ 2147483647 from HOK.out.1)
    by_cases h1 : m ≤ x
    · have e1 : evE m a x = 2 := by unfold evE; rw [← HE.out, if_pos rfl, if_pos h1]
      have e2 : evV m a x = 0 := by unfold evV; rw [e1]; rfl
      rw [e1, e2]
      clear e1 e2
      go_enter Try.func36, Try.ntmps36
      go_wp2_with fail
      refine (check_any m w.heap.size 1 _ [a] _ (ll_one HU.out _ rfl) (by omega) HLL.out).mono ?_
      rintro e w1 ⟨rfl, rfl⟩
      rw [← HE.out]
      go_wp2_with fail
      go_ret2
      exact ⟨rfl, Gr.new w _⟩
    · have e1 : evE m a x = 0 := by unfold evE; rw [← HE.out, if_pos rfl, if_neg h1]
      have e2 : evV m a x = Op.ev a x % m := by unfold evV; rw [e1]; rfl
      rw [e1, e2]
      clear e1 e2
      go_enter Try.func36, Try.ntmps36
      go_wp2_with fail
      refine (check_any m w.heap.size 1 _ [a] _ (ll_one HU.out _ rfl) (by omega) HLL.out).mono ?_
      rintro e w1 ⟨rfl, rfl⟩
      rw [← HE.out]
      go_wp2_with fail
      refine (value_any m x a _ _ (by have := HMB.out; omega) HXB.out (HU.out.later (Gr.new w _))).mono ?_
      rintro e w2 ⟨rfl, rfl⟩
      go_wp2_with fail
      go_ret2
      exact ⟨rfl, Gr.new w _⟩
  · have hf : (E != 0) = true := by simp [h0]
    have e1 : evE m a x = E := by unfold evE; rw [← HE.out, if_neg h0]
    have e2 : evV m a x = 0 := by unfold evV; rw [e1, if_neg h0]
    rw [e1, e2]
    clear e1 e2
    go_enter Try.func36, Try.ntmps36
    go_wp2_with fail
    refine (check_any m w.heap.size 1 _ [a] _ (ll_one HU.out _ rfl) (by omega) HLL.out).mono ?_
    rintro e w1 ⟨rfl, rfl⟩
    rw [← HE.out]
    go_wp2_with fail
    go_ret2
    exact ⟨rfl, Gr.new w _⟩
end Go.Proofs.Ytaenjbemkeghgaa
