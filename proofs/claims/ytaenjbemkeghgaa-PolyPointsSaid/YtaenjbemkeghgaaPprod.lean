/- product, value, inverse. -/
import Derived.Test.YtaenjbemkeghgaaPadd
import Derived.Test.YtaenjbemkeghgaaFunb
namespace Op
set_option linter.unusedVariables false
theorem horner (a E x m : Int) : (a + E % m * x) % m = (a + x * E) % m := by
  rw [Int.mul_comm (E % m) x, Int.add_emod, Int.mul_emod, Int.emod_emod, ← Int.mul_emod, ← Int.add_emod]
theorem ev_drop {l : List Int} {k : Nat} (h : k < l.length) (x : Int) : ev (l.drop k) x = cf l k + x * ev (l.drop (k + 1)) x := by
  rw [List.drop_eq_getElem_cons h]
  show l[k] + x * ev (l.drop (k + 1)) x = _
  congr 1
  rw [← cf_at, List.getElem?_eq_getElem h]; rfl
theorem rs_put {m : Int} {l pre : List Int} {o : Nat} (h : Rs m l) (k : Rs m pre) : Rs m (l.take o ++ pre ++ l.drop (o + pre.length)) := fun x hx => by
  rcases List.mem_append.1 hx with h1 | h1
  · rcases List.mem_append.1 h1 with h2 | h2
    · exact h x (List.mem_of_mem_take h2)
    · exact k x h2
  · exact h x (List.mem_of_mem_drop h1)
theorem rs_of {m : Int} {l : List Int} (h : ∀ j, j < l.length → 0 ≤ cf l j ∧ cf l j < m) : Rs m l := fun x hx => by
  obtain ⟨i, hi, rfl⟩ := List.mem_iff_getElem.1 hx
  have := h i hi
  rwa [← cf_at, List.getElem?_eq_getElem hi] at this
theorem rs_mod {m : Int} (hm : 0 < m) {l : List Int} {f : Nat → Int} (h : ∀ j, j < l.length → cf l j = f j % m) : Rs m l :=
  rs_of (fun j hj => by rw [h j hj]; exact ⟨Int.emod_nonneg _ (by omega), Int.emod_lt_of_pos _ hm⟩)
theorem dvd_mod (m x : Int) : m ∣ x % m - x := ⟨-(x / m), by have := Int.emod_add_mul_ediv x m; rw [Int.mul_neg]; omega⟩
theorem un_gcd {a n : Nat} (h : Un n a) : Nat.gcd a n = 1 := by
  obtain ⟨v, hv⟩ := h
  have h1 : ((Nat.gcd a n : Nat) : Int) ∣ a := Int.natCast_dvd_natCast.2 (Nat.gcd_dvd_left a n)
  have h2 : ((Nat.gcd a n : Nat) : Int) ∣ n := Int.natCast_dvd_natCast.2 (Nat.gcd_dvd_right a n)
  have h3 : ((Nat.gcd a n : Nat) : Int) ∣ ((1 : Nat) : Int) := by
    have e : ((1 : Nat) : Int) = (a : Int) * v - ((a : Int) * v - 1) := by omega
    rw [e]; exact Int.dvd_sub (Int.dvd_mul_of_dvd_left h1) (Int.dvd_trans h2 hv)
  exact Nat.dvd_one.1 (Int.natCast_dvd_natCast.1 h3)
end Op
namespace Go.Proofs.Ytaenjbemkeghgaa
open Go.RowKit
set_option linter.unusedVariables false

theorem from_eq (a : Option Addr) (n cap k : Nat) (hk : k ≤ n) (W : World) : (Instr.slice 23 (.slice a n cap) (some (.int .i64 k)) none none).run Try.prog W = .ok (.slice (if cap = k then a else a.map (·.add k)) (n - k) (cap - k)) W := by
  have h : Try.prog.underlying 23 = some (.slice (Try.prog.elem 23)) := by kernel_rfl
  rw [run_slice_l (w := W) 23 a n cap h .i64 (k : Int) (by omega) (by omega)]
  have hs : (sizeOf (Try.prog.elem 23)).run Try.prog W = .ok 1 W := by
    have e : Try.prog.elem 23 = 22 := by kernel_rfl
    rw [e]; exact Try.sizeOf22 W
  rw [hs]
  simp [Result.andThen, sliced]
theorem HasP.from_ {W : World} {a : Option Addr} {l : List Int} {n cap k : Nat} (h : HasP W (.slice a n cap) l) (hk : k ≤ n) : HasP W (.slice (if cap = k then a else a.map (·.add k)) (n - k) (cap - k)) (l.drop k) := by
  obtain ⟨rfl, hcap⟩ := h.len
  obtain ⟨hd, a', cap', e, h1, h2, hc⟩ := h
  simp only [Value.slice.injEq] at e
  obtain ⟨rfl, -, rfl⟩ := e
  have e : (l.drop k).length = l.length - k := List.length_drop ..
  refine ⟨hd.drop k, _, cap - k, by rw [e], by rw [e]; omega, by omega, fun i hi => ?_⟩
  rw [e] at hi
  obtain ⟨g, o, rfl, hcell⟩ := hc (k + i) (by omega)
  rw [if_neg (by omega)]
  refine ⟨g, o + k, congrArg some (addr_add rfl _ rfl), ?_⟩
  rw [Op.cf_drop, Nat.add_assoc]; exact hcell

set_option maxRecDepth 100000 in
set_option maxHeartbeats 2000000 in
theorem product_any (m : Int) (a b : List Int) (u v : Value) (w : World) (hm : 1 ≤ m ∧ m ≤ 4294967295) (hu : HasP w u a) (hv : HasP w v b) (hla : a.length ≤ 100000) (hlb : b.length ≤ 100000) :
    Calls Try.prog 46 #[.int .u32 m, u, v] w (NewP (Op.nf m (Op.mul a b)) w) := by
  have HM := Lib.hid hm
  have HU := Lib.hid hu
  have HV := Lib.hid hv
  obtain ⟨da, ad, capa, rfl, a1, a2, ca⟩ := hu
  obtain ⟨db, bd, capb, rfl, b1, b2, cb⟩ := hv
  obtain ⟨la, hla'⟩ : ∃ la, la = a.length := ⟨_, rfl⟩
  obtain ⟨lb, hlb'⟩ : ∃ lb, lb = b.length := ⟨_, rfl⟩
  obtain ⟨n, hn⟩ : ∃ n, n = la + lb := ⟨_, rfl⟩
  rw [← hla'] at a1 hla HU ⊢
  rw [← hlb'] at b1 hlb HV ⊢
  have hn1 : la + lb ≤ n := by omega
  have hn3 : n ≤ 200000 := by omega
  have hmk := mk_row n ((la : Int) + (lb : Int)) (by omega) (by omega)
  have HLA := Lib.hid hla'
  have HLB := Lib.hid hlb'
  have HN := Lib.hid hn
  have HCA := Lib.hid ca
  have HDA := Lib.hid da
  have HDB := Lib.hid db
  clear hm ca cb da db hla' hlb' hn
  have HFR := Lib.hid (fun k (hk : k ≤ n) => from_eq (some ⟨w.heap.size, 0, none⟩) n n k hk)
  go_enter Try.func46, Try.ntmps46
  go_wp2_with fail
  clear hmk
  go_loopw [18] (fun i wr => ∃ k l, i = .int .i64 (k : Nat) ∧ k ≤ la ∧ Row wr w.heap.size l ∧ l.length = n ∧ Op.Rs m l ∧ Op.Cg m l (Op.mul (a.take k) b) ∧ Gr w wr) (fun i _ => la - (intOf i).toNat)
  case atStart =>
    exact ⟨0, List.replicate n 0, rfl, by omega, Row.zeros w n, by simp, fun x hx => by rw [List.eq_of_mem_replicate hx]; have := HM.out; omega, Op.Cg.of (fun i => by rw [cf_rep, List.take_zero, Op.cf_mul_nil]), Gr.new w _⟩
  case round =>
    obtain ⟨k, l, rfl, hk, hrow, hll, hrs, hcg, hg⟩ := hrel
    have HROW := Lib.hid hrow
    have HLL := Lib.hid hll
    have HRS := Lib.hid hrs
    have HCG := Lib.hid hcg
    have HG := Lib.hid hg
    clear hrow hll hrs hcg hg
    by_cases hlt : k < la
    · obtain ⟨ga, oa, rfl, c2⟩ := HCA.out k (by rw [← HLA.out]; exact hlt)
      have c2 : wr.cell? ⟨ga, oa + k, none⟩ = _ := HG.out.keeps c2
      have hx := HDA.out.at_ k
      obtain ⟨x, hxe⟩ : ∃ x, x = Op.cf a k := ⟨_, rfl⟩
      rw [← hxe] at c2 hx
      have HX := Lib.hid hxe
      have HXB := Lib.hid hx
      have i5 : (k : Int) < (la : Int) := by omega
      have i7 : (0 : Int) ≤ (k : Int) := by omega
      have hfr := HFR.out k (by omega)
      rw [if_neg (by omega), show (some (⟨w.heap.size, 0, none⟩ : Addr)).map (·.add k) = some ⟨w.heap.size, k, none⟩ from congrArg some ((addr_add rfl _ rfl).trans (by rw [Nat.zero_add]))] at hfr
      clear hxe hx
      go_wp2_with fail
      refine (add_any w.heap.size k (n - k) (n - k) m x (l.drop k) b _ _ HM.out HXB.out ?_ (HROW.out.1.drop k) ?_ (Nat.le_refl _) (by omega) (HV.out.later HG.out) ?_ (by rw [← HLB.out]; omega)).mono ?_
      · obtain ⟨_, cur, h1, h2, _⟩ := HROW.out
        exact ⟨cur, h1, by rw [HLL.out] at h2; omega⟩
      · intro j hj
        rw [Op.cf_drop]
        exact HROW.out.cell (by rw [HLL.out]; omega)
      · intro h0 e
        obtain ⟨bb, e2, hb3⟩ := HV.out.block h0
        rw [e2] at e
        have := Option.some.inj e
        omega
      rintro e w3 ⟨pre, rfl, hp1, hp2, hp3, hup⟩
      have hfit : k + pre.length ≤ l.length := by rw [hp1, ← HLB.out, HLL.out]; omega
      have HR3 := Lib.hid (show Row w3 w.heap.size (put l k pre) from HROW.out.upd hup hp3 hfit)
      have HL3 := Lib.hid (show (put l k pre).length = n from by rw [put_len hfit]; exact HLL.out)
      have HRS3 := Lib.hid (show Op.Rs m (put l k pre) from Op.rs_put HRS.out (Op.rs_mod (by have := HM.out.1; omega) (fun j hj => hp2 j (by omega))))
      have HCG3 := Lib.hid (show Op.Cg m (put l k pre) (Op.mul (a.take (k + 1)) b) from fun i => by
        have h0 := HCG.out i
        rw [cf_put hfit, Op.mul_next, Op.cf_sh, ← HX.out, hp1]
        by_cases h1 : k ≤ i ∧ i < k + b.length
        · rw [if_pos h1, if_neg (by omega), hp2 (i - k) (by omega), Op.cf_drop, Op.cf_sc, show k + (i - k) = i from by omega]
          have h2 := Op.dvd_mod m (Op.cf l i + x * Op.cf b (i - k))
          have e : (Op.cf l i + x * Op.cf b (i - k)) % m - (Op.cf (Op.mul (a.take k) b) i + x * Op.cf b (i - k)) = ((Op.cf l i + x * Op.cf b (i - k)) % m - (Op.cf l i + x * Op.cf b (i - k))) + (Op.cf l i - Op.cf (Op.mul (a.take k) b) i) := by omega
          rw [e]; exact Int.dvd_add h2 h0
        · rw [if_neg h1]
          have e : (if i < k then (0 : Int) else Op.cf (Op.sc x b) (i - k)) = 0 := by
            split
            · rfl
            · rw [Op.cf_out (by rw [Op.sc_len]; omega)]
          rw [e, Int.add_zero]; exact h0)
      have HG3 := Lib.hid (show Gr w w3 from hup.gr HG.out (Nat.le_refl _))
      clear hfit hp1 hp2 hp3 hup
      go_wp2_with fail
      go_roundw
      case rel => exact ⟨k + 1, put l k pre, by go_num, by omega, HR3.out, HL3.out, HRS3.out, HCG3.out, HG3.out⟩
      case measure => simp [intOf]; omega
    · obtain rfl : k = la := by omega
      have hP3 := HROW.out.hasP (cap := n) (by rw [HLL.out]; omega) (by omega)
      rw [HLL.out] at hP3
      have HP3 := Lib.hid hP3
      have HNF := Lib.hid (show Op.tz l = Op.nf m (Op.mul a b) from Op.nf_is (by have := HM.out.1; omega) ⟨fun x hx => HRS.out x (Op.tz_mem hx), Op.tz_tz l⟩ (fun i => by
        have h := HCG.out i
        rw [List.take_of_length_le (by rw [← HLA.out]; omega)] at h
        rw [Op.cf_tz]; exact h))
      clear hP3
      go_wp2_with fail
      refine (trimmed_any _ _ _ _ _ HP3.out).mono ?_
      rintro e w4 ⟨rfl, rfl⟩
      go_wp2_with fail
      go_ret
      exact ⟨_, _, _, rfl, by rw [← HNF.out]; exact HP3.out.tz, fun p hp => by cases hp; exact Nat.le_refl _, HG.out⟩

set_option maxRecDepth 100000 in
set_option maxHeartbeats 1000000 in
theorem value_any (m x : Int) (a : List Int) (v : Value) (w : World) (hm : 1 ≤ m ∧ m ≤ 4294967295) (hx : 0 ≤ x ∧ x < 4294967296) (h : HasP w v a) :
    Calls Try.prog 60 #[.int .u32 m, v, .int .u32 x] w (fun e w' => e = .returned (.int .u32 (Op.ev a x % m)) ∧ w = w') := by
  have HM := Lib.hid hm
  have HX := Lib.hid hx
  obtain ⟨hd, ad, cap, rfl, h1, h2, hc⟩ := h
  obtain ⟨len, hlen⟩ : ∃ len, len = a.length := ⟨_, rfl⟩
  have HC := Lib.hid hc
  have HD := Lib.hid hd
  rw [← hlen] at h1 ⊢
  have HLEN := Lib.hid hlen
  clear hc hd hlen hm hx
  go_enter Try.func60, Try.ntmps60
  go_wp2_with fail
  go_loop [7, 8] (fun s t => ∃ k : Nat, ∃ E, s = .int .u32 E ∧ t = .int .i64 ((k : Int) - 1) ∧ k ≤ len ∧ E = Op.ev (a.drop k) x % m) (fun _ t => (intOf t + 1).toNat)
  case atStart => exact ⟨len, 0, rfl, rfl, by omega, by rw [List.drop_of_length_le (by rw [← HLEN.out]; omega)]; simp [Op.ev]⟩
  case round =>
    obtain ⟨k, E, rfl, rfl, hk, hE⟩ := hrel
    have hE0 : 0 ≤ E := by rw [hE]; exact Int.emod_nonneg _ (by have := HM.out; omega)
    have hE1 : E < m := by rw [hE]; exact Int.emod_lt_of_pos _ (by have := HM.out; omega)
    have HE := Lib.hid hE
    clear hE
    rcases k with _ | j
    · go_wp2_with fail
      go_ret
      exact ⟨by rw [← List.drop_zero (l := a), ← HE.out]; rfl, rfl⟩
    · have hjl : j < a.length := by rw [← HLEN.out]; omega
      obtain ⟨g, o, rfl, hcell⟩ := HC.out j hjl
      have hc0 := HD.out.at_ j
      obtain ⟨c, hce⟩ : ∃ c, c = Op.cf a j := ⟨_, rfl⟩
      rw [← hce] at hcell hc0
      have HCE := Lib.hid hce
      have HC0 := Lib.hid hc0
      have HJ := Lib.hid hjl
      have HEB := Lib.hid (show 0 ≤ E ∧ E < 4294967296 from by have := HM.out; omega)
      have i1 : (j : Int) < (len : Int) := by omega
      have i2 : ((j + 1 : Nat) : Int) - 1 = (j : Int) := by omega
      clear hce hc0 hjl
      rw [i2]
      go_wp2_with fail
      refine (plus_any m c E x _ HM.out HC0.out HEB.out HX.out).mono ?_
      rintro e w' ⟨rfl, rfl⟩
      go_wp2_with fail
      go_round
      case rel => exact ⟨j, _, rfl, rfl, by omega, by rw [HE.out, Op.horner, Op.ev_drop HJ.out, HCE.out]⟩
      case measure => simp [intOf]

/-- The inverse, or ErrRange. -/
def InvP (m a : Int) (w : World) (e : Ending) (w' : World) : Prop := ∃ b, e = .returned (.tuple #[.int .u32 b, .int .i64 0]) ∧ 0 ≤ b ∧ b < m ∧ m ∣ a * b - 1 ∧ Gr w w'
theorem inv_ok (m a : Int) (w : World) (hm : 2 ≤ m ∧ m ≤ 2147483647) (ha : 0 ≤ a ∧ a < m) (hu : Op.Un m a) :
    Calls Try.prog 68 #[.int .u32 m, .int .u32 a] w (InvP m a w) := by
  obtain ⟨m', rfl⟩ := Int.eq_ofNat_of_zero_le (show 0 ≤ m from by omega)
  obtain ⟨a', rfl⟩ := Int.eq_ofNat_of_zero_le ha.1
  have HG := Lib.hid (Op.un_gcd hu)
  obtain ⟨hm1, hm2⟩ := hm
  obtain ⟨ha1, ha2⟩ := ha
  clear hu
  go_enter Try.func68, Try.ntmps68
  go_wp2_with fail
  refine (inverse_ok a' m' _ (by omega) (by omega) (by omega) HG.out).mono ?_
  rintro e w' ⟨b, ⟨rfl, hg⟩, hb0, hb1, hb2⟩
  have H2 := Lib.hid hb2
  have HGR := Lib.hid hg
  clear hb2 hg
  go_wp2_with fail
  go_ret2
  exact ⟨b, rfl, hb0, hb1, by
    have := Op.dvd_mod (m' : Int) ((a' : Int) * b)
    rw [H2.out] at this
    have e : (a' : Int) * b - 1 = -(1 - (a' : Int) * b) := by omega
    rw [e]; exact Int.dvd_neg.2 this, HGR.out⟩
theorem IsInv.un {a n b : Int} (h : IsInv a n b) : Op.Un n a := ⟨b, by
  have := Op.dvd_mod n (a * b)
  rw [h.2.2] at this
  have e : a * b - 1 = -(1 - a * b) := by omega
  rw [e]; exact Int.dvd_neg.2 this⟩
theorem gcd_un {a n : Nat} (hn : 2 ≤ n) (h : Nat.gcd a n = 1) : Op.Un n a := by
  obtain ⟨x, y, hxy⟩ : ∃ x y : Int, (a : Int) * x + n * y = 1 := by
    have key : ∀ (k a n : Nat), a + n ≤ k → ∃ x y : Int, (a : Int) * x + n * y = (Nat.gcd a n : Nat) := by
      intro k
      induction k with
      | zero => intro a n hk; exact ⟨0, 0, by have h1 : a = 0 := by omega
                                              have h2 : n = 0 := by omega
                                              subst h1 h2; simp⟩
      | succ k ih =>
        intro a n hk
        rcases Nat.eq_zero_or_pos a with rfl | ha
        · exact ⟨0, 1, by simp⟩
        · rcases Nat.eq_zero_or_pos n with rfl | hn
          · exact ⟨1, 0, by simp⟩
          · by_cases hle : a ≤ n
            · obtain ⟨x, y, h⟩ := ih a (n - a) (by omega)
              refine ⟨x - y, y, ?_⟩
              have e : Nat.gcd a n = Nat.gcd a (n - a) := (Nat.gcd_sub_self_right hle).symm
              rw [e, ← h, Int.mul_sub]
              have : ((n - a : Nat) : Int) = (n : Int) - a := by omega
              rw [this, Int.sub_mul]; omega
            · obtain ⟨x, y, h⟩ := ih (a - n) n (by omega)
              refine ⟨x, y - x, ?_⟩
              have e : Nat.gcd a n = Nat.gcd (a - n) n := (Nat.gcd_sub_self_left (by omega)).symm
              rw [e, ← h, Int.mul_sub]
              have : ((a - n : Nat) : Int) = (a : Int) - n := by omega
              rw [this, Int.sub_mul]; omega
    obtain ⟨x, y, hh⟩ := key (a + n) a n (Nat.le_refl _)
    exact ⟨x, y, by rw [hh, h]; rfl⟩
  exact ⟨x, -y, by rw [Int.mul_neg]; omega⟩
theorem inv_none (m a : Int) (w : World) (hm : 2 ≤ m ∧ m ≤ 2147483647) (ha : 0 ≤ a ∧ a < m) (hu : ¬ Op.Un m a) :
    Calls Try.prog 68 #[.int .u32 m, .int .u32 a] w (fun e w' => e = .returned (.tuple #[.int .u32 0, .int .i64 7]) ∧ Gr w w') := by
  obtain ⟨m', rfl⟩ := Int.eq_ofNat_of_zero_le (show 0 ≤ m from by omega)
  obtain ⟨a', rfl⟩ := Int.eq_ofNat_of_zero_le ha.1
  have HG := Lib.hid (show Nat.gcd a' m' ≠ 1 from fun h => hu (gcd_un (by omega) h))
  obtain ⟨hm1, hm2⟩ := hm
  obtain ⟨ha1, ha2⟩ := ha
  clear hu
  go_enter Try.func68, Try.ntmps68
  go_wp2_with fail
  refine (inverse_none a' m' _ (by omega) (by omega) (by omega) HG.out).mono ?_
  rintro e w' ⟨rfl, hg⟩
  have HGR := Lib.hid hg
  clear hg
  go_wp2_with fail
  go_ret2
  exact ⟨rfl, HGR.out⟩
end Go.Proofs.Ytaenjbemkeghgaa
