import Derived.Test.YtfpdemmdkiohhaaGreatLZC
import Derived.Test.YtfpdemmdkiohhaaGreatLModua
import Derived.Test.YtfpdemmdkiohhaaGreatLWG
/- Package residue: division by the last prime. -/
namespace Go.Proofs.YtfpdemmdkiohhaaGreat.Mo
open Go.RowKit
set_option linter.unusedVariables false

def Enters (n : Nat) : Prop := ∀ (args : Array Value) (w : World), (callFunc n args).run Tryz.prog w = .ok (.enter n args) w
theorem enters_of {n : Nat} {fn : Func} (hf : Tryz.prog.funcs[n]? = some fn) (hname : (fn.name == "runtime.NumGoroutine") = false) (hb : fn.body.isSome = true) : Enters n := fun args w => by
  obtain ⟨c, hb⟩ := Option.isSome_iff_exists.1 hb
  have h1 : fn.name ≠ "runtime.NumGoroutine" := by simpa using hname
  simp [callFunc, hf, h1, hb]
theorem dvd_of_gcd {u p x : Int} (h : Int.gcd u p = 1) (hd : p ∣ u * x) : p ∣ x := by
  have hc : Nat.Coprime p.natAbs u.natAbs := (show Nat.Coprime u.natAbs p.natAbs from h).symm
  have h1 : p.natAbs ∣ u.natAbs * x.natAbs := by
    rw [← Int.natAbs_mul]; exact Int.natAbs_dvd_natAbs.2 hd
  exact Int.natAbs_dvd_natAbs.1 (hc.dvd_of_dvd_mul_left h1)
theorem Quo.unique {v u p a b : Int} (hc : Int.gcd u p = 1) (h : Quo v u p a) (k : Quo v u p b) : a = b := by
  have h1 : p ∣ u * (a - b) := by
    have e : u * (a - b) = (u * a - v) - (u * b - v) := by rw [Int.mul_sub]; omega
    rw [e]; exact Int.dvd_sub h.2.2 k.2.2
  exact Op.dvd_small (dvd_of_gcd hc h1) ⟨h.1, h.2.1⟩ ⟨k.1, k.2.1⟩
open Classical in
/-- The quotient, as a function. -/
noncomputable def qf (v u p : Int) : Int := if h : ∃ q, Quo v u p q then Classical.choose h else 0
theorem qf_eq {v u p q : Int} (hc : Int.gcd u p = 1) (h : Quo v u p q) : qf v u p = q := by
  have hx : ∃ q, Quo v u p q := ⟨q, h⟩
  unfold qf
  rw [dif_pos hx]
  exact Quo.unique hc (Classical.choose_spec hx) h

theorem qf_bound (v u : Int) {p : Int} (hp : p ≤ 2147483647) : 0 ≤ qf v u p ∧ qf v u p < 4294967296 := by
  unfold qf
  split
  · next h => have := Classical.choose_spec h; exact ⟨this.1, by have := this.2.1; omega⟩
  · omega

set_option maxRecDepth 100000 in
set_option maxHeartbeats 2000000 in
theorem divide1_any (r : List Int) (vr : Value) (d q p : Int) (RB DB QB i : Nat) (w : World) (hu : HasP w vr r) (hi : i < r.length) (hp : okP p) (hq : 0 ≤ q ∧ q ≤ 2147483647) (hd : -4611686018427387904 ≤ d ∧ d ≤ 4611686018427387904) (hc : Int.gcd q p = 1)
    (hR : w.cell? ⟨RB, 0, none⟩ = some vr) (hD : w.cell? ⟨DB, 0, none⟩ = some (.int .i64 d)) (hQ : w.cell? ⟨QB, 0, none⟩ = some (.int .u32 q)) :
    Calls Tryz.prog 75 #[.int .i64 i, .int .u32 p, .pointer (some ⟨RB, 0, none⟩), .pointer (some ⟨DB, 0, none⟩), .pointer (some ⟨QB, 0, none⟩)] w (IntU (qf (Op.cf r i - d) q p) w) := by
  obtain ⟨hu32, xb, cb, rfl, u1, u2, uc⟩ := id hu
  obtain ⟨gy, oy, rfl, cy⟩ := uc i hi
  have hab := hu32.at_ i
  obtain ⟨n, hn⟩ : ∃ n, n = r.length := ⟨_, rfl⟩
  rw [← hn] at hR hi
  obtain ⟨a, ha⟩ : ∃ a, a = Op.cf r i := ⟨_, rfl⟩
  rw [← ha] at cy hab ⊢
  have HP := Lib.hid hp
  have HC := Lib.hid hc
  have hrl : n ≤ 9223372036854775807 := by have := hu.len; omega
  have i0 : (0 : Int) ≤ (i : Int) := by omega
  have i1 : (i : Int) < (n : Int) := by omega
  have HW1 := Lib.hid (show isW (a - d) from ⟨by omega, by omega⟩)
  have HW2 := Lib.hid (show isW q from ⟨by omega, by omega⟩)
  have e1 : IntKind.i64.wrap a = a := IntWalk.i64_in _ (by omega)
  have e2 : IntKind.i64.wrap (a - d) = a - d := IntWalk.i64_in _ (by omega)
  have e3 : IntKind.i64.wrap q = q := IntWalk.i64_in _ (by omega)
  clear hu hi hp hc uc ha hn hu32
  go_enter Tryz.func75, Tryz.ntmps75
  go_wp2_with fail
  go_region_held3 (fun wz => wz.cell? ⟨RB, 0, none⟩ = some (.slice (some ⟨gy, oy, none⟩) n cb) ∧ wz.cell? ⟨DB, 0, none⟩ = some (.int .i64 d) ∧ wz.cell? ⟨QB, 0, none⟩ = some (.int .u32 q) ∧ wz.cell? ⟨gy, oy + i, none⟩ = some (.int .u32 a)) (go_keep)
    (first | (go_at_call 59; refine (quotient_any (a - d) q p _ HP.out HW1.out HW2.out HC.out).mono ?_; rintro e w1 ⟨b, hb, rfl, hg⟩; have HB := Lib.hid hb; have HG1 := Lib.hid ((show Gr w w.drew from (Gr.refl w).drew).trans hg); have hR := HG1.out.keeps hR; have hD := HG1.out.keeps hD; have hQ := HG1.out.keeps hQ; have cy := HG1.out.keeps cy; clear hg hb))
  go_wp2_with fail
  go_ret
  exact ⟨by rw [qf_eq HC.out HB.out]; rfl, HG1.out⟩

theorem HasP.setAt {W : World} {v : Value} {l : List Int} {p : Addr} {u0 : Value} (h : HasP W v l) (hc : W.cell? p = some u0) (hu : ∀ n, u0 ≠ .int .u32 n) (u : Value) : HasP (W.setCell p u) v l := by
  obtain ⟨hd, a, cap, e, h1, h2, h3⟩ := h
  refine ⟨hd, a, cap, e, h1, h2, fun i hi => ?_⟩
  obtain ⟨g, o, e', hcell⟩ := h3 i hi
  refine ⟨g, o, e', (Lo.cell_far (fun e2 => ?_) u).trans hcell⟩
  rw [e2, hcell] at hc
  exact hu _ (Option.some.inj hc).symm
theorem tb_bound {t B : Int} (ht : 1 ≤ t ∧ t ≤ 2147483647) (hB : -1073741824 ≤ B ∧ B ≤ 1073741824) : -2305843008139952128 ≤ t * B ∧ t * B ≤ 2305843008139952128 := by
  rcases Int.lt_or_le B 0 with h | h
  · have h1 : t * (-B) ≤ 2147483647 * 1073741824 := Int.mul_le_mul (by omega) (by omega) (by omega) (by omega)
    have h2 : 0 ≤ t * (-B) := Int.mul_nonneg (by omega) (by omega)
    rw [Int.mul_neg] at h1 h2
    omega
  · have h1 : t * B ≤ 2147483647 * 1073741824 := Int.mul_le_mul (by omega) (by omega) (by omega) (by omega)
    have h2 : 0 ≤ t * B := Int.mul_nonneg (by omega) (by omega)
    omega
/-- What divide returns: the residues, and what was taken away. -/
def DivR (l r : List Int) (t d : Int) (row : List Int) : Prop := ∃ b, Quo (Op.cf r (l.length - 1)) t (Op.cf l (l.length - 1)) b ∧ d = t * bal b (Op.cf l (l.length - 1)) ∧ row = rowL (l.length - 1) (fun i => qf (Op.cf r i - d) (Op.cf l (l.length - 1)) (Op.cf l i))
def DivPost (l r : List Int) (t : Int) (w : World) (e : Ending) (w' : World) : Prop := ∃ a n c row d, e = .returned (.tuple #[.slice a n c, .int .i64 d]) ∧ HasP w' (.slice a n c) row ∧ DivR l r t d row ∧ Gr w w'
theorem Sys.two {l : List Int} (h : Sys l) {i j : Nat} (hi : i < l.length) (hj : j < l.length) (hij : i ≠ j) : Int.gcd (Op.cf l i) (Op.cf l j) = 1 := by
  rcases Nat.lt_or_gt_of_ne hij with hlt | hlt
  · have := h.2.2.1 j hj i hlt
    rwa [at_cf, at_cf] at this
  · have := h.2.2.1 i hi j hlt
    rw [at_cf, at_cf] at this
    rw [Int.gcd_comm]; exact this

set_option maxRecDepth 100000 in
set_option maxHeartbeats 4000000 in
theorem divide_any (l r : List Int) (t : Int) (v vr : Value) (w : World) (hs : Sys l) (h2 : 2 ≤ l.length) (hr : RowOf l r) (hv : HasP w v l) (hu : HasP w vr r) (ht : 1 ≤ t ∧ t ≤ 2147483647) (hc : Int.gcd t (Op.cf l (l.length - 1)) = 1) :
    Calls Tryz.prog 45 #[v, vr, .int .u32 t] w (DivPost l r t w) := by
  obtain ⟨-, xa, ca, rfl, v1, v2, vc⟩ := id hv
  obtain ⟨hu32, xb, cb, rfl, -, -, uc⟩ := id hu
  obtain ⟨n, hn⟩ : ∃ n, n = l.length := ⟨_, rfl⟩
  obtain ⟨m, hm⟩ : ∃ m, m = n - 1 := ⟨_, rfl⟩
  have hrn : r.length = n := by rw [hr.1, hn]
  obtain ⟨gx, ox, rfl, cx⟩ := vc m (by omega)
  obtain ⟨gy, oy, rfl, cy⟩ := uc m (by omega)
  have hq3 := hs.at_ (i := m) (by omega)
  have hr3 := hr.2 m (by omega)
  have hn25 : n ≤ 25 := by rw [hn]; exact hs.2.2.2.2
  have HC := Lib.hid (show Int.gcd t (Op.cf l m) = 1 by rw [hm, hn]; exact hc)
  have HDIVR := Lib.hid (show ∀ d row, DivR l r t d row ↔ ∃ b, Quo (Op.cf r m) t (Op.cf l m) b ∧ d = t * bal b (Op.cf l m) ∧ row = rowL m (fun i => qf (Op.cf r i - d) (Op.cf l m) (Op.cf l i)) from fun d row => by rw [hm, hn]; exact Iff.rfl)
  have HS := Lib.hid hs
  have HR := Lib.hid hr
  have HN := Lib.hid hn
  have HM := Lib.hid hm
  have hmn : m < n := by omega
  have hm1 : ((n : Nat) : Int) - 1 = (m : Int) := by omega
  have hmca : m ≤ ca := by omega
  have HTK := Lib.hid (show HasP w (.slice (some ⟨gx, ox, none⟩) m ca) (l.take m) from hv.take (by omega))
  have HTL := Lib.hid (show (l.take m).length = m from by rw [List.length_take]; omega)
  have HTO := Lib.hid (show okL (l.take m) from fun x hx => hs.1 x (List.mem_of_mem_take hx))
  rw [← hn] at hv
  rw [hrn] at hu
  have HV := Lib.hid hv
  have HU := Lib.hid hu
  rw [← hn, hrn]
  obtain ⟨q, hq⟩ : ∃ q, q = Op.cf l m := ⟨_, rfl⟩
  obtain ⟨a, ha⟩ : ∃ a, a = Op.cf r m := ⟨_, rfl⟩
  rw [← hq] at cx hq3 hr3 HC HDIVR
  rw [← ha] at cy hr3 HDIVR
  have HQ := Lib.hid hq
  have HA := Lib.hid ha
  have HOK := Lib.hid (show okP q from ⟨by omega, by omega⟩)
  have HW1 := Lib.hid (show isW a from ⟨by omega, by omega⟩)
  have HW2 := Lib.hid (show isW t from ⟨by omega, by omega⟩)
  have i0 : (0 : Int) ≤ (m : Int) := by omega
  have i1 : (m : Int) < (n : Int) := by omega
  have i3 : (m : Int) ≤ (ca : Int) := by omega
  have e1 : IntKind.i64.wrap a = a := IntWalk.i64_in _ (by omega)
  have e2 : IntKind.i64.wrap t = t := IntWalk.i64_in _ (by omega)
  have hgx := World.block_lt_of_cell? w _ cx
  have hgy := World.block_lt_of_cell? w _ cy
  clear hs hr hv hu vc uc hu32 hc hq ha hrn hm hn v1 v2
  go_enter Tryz.func45, Tryz.ntmps45
  go_wp2_with fail
  obtain ⟨W, hW⟩ : ∃ W : World, W = ((w.alloc (.cells #[.slice (some ⟨gy, oy, none⟩) n cb] 22)).alloc (.cells #[.int .i64 0] 2)).alloc (.cells #[.int .u32 q] 42) := ⟨_, rfl⟩
  rw [← hW]
  have HG := Lib.hid (show Gr w W by rw [hW]; exact ((Gr.new w _).alloc _).alloc _)
  have hR : W.cell? ⟨w.heap.size, 0, none⟩ = some (.slice (some ⟨gy, oy, none⟩) n cb) := by rw [hW]; simp [go_sem]
  have D0 := Lib.hid (show W.cell? ⟨w.heap.size + 1, 0, none⟩ = some (.int .i64 0) by rw [hW]; simp [go_sem])
  have FD := Lib.hid (show W.frozen? ⟨w.heap.size + 1, 0, none⟩ = false by rw [hW]; simp [go_sem])
  have hQ : W.cell? ⟨w.heap.size + 1 + 1, 0, none⟩ = some (.int .u32 q) := by rw [hW]; simp [go_sem]
  have cx := HG.out.keeps cx
  have cy := HG.out.keeps cy
  clear hW
  have m1 : ¬ (w.heap.size = w.heap.size + 1) := by omega
  have m2 : ¬ (w.heap.size + 1 = w.heap.size) := by omega
  have m3 : ¬ (w.heap.size + 1 + 1 = w.heap.size + 1) := by omega
  have m4 : ¬ (w.heap.size + 1 = w.heap.size + 1 + 1) := by omega
  have m5 : ¬ (gy = w.heap.size + 1) := by omega
  have m6 : ¬ (w.heap.size + 1 = gy) := by omega
  have hD0 : w.heap.size ≤ w.heap.size + 1 := by omega
  clear hgx hgy
  generalize w.heap.size + 1 + 1 = QB at *
  generalize w.heap.size + 1 = DB at *
  generalize hA0 : w.heap.size = RB at *
  go_region_held3 (fun wz => wz.cell? ⟨RB, 0, none⟩ = some (.slice (some ⟨gy, oy, none⟩) n cb) ∧ wz.cell? ⟨QB, 0, none⟩ = some (.int .u32 q) ∧ wz.cell? ⟨gy, oy + m, none⟩ = some (.int .u32 a)) (first | exact ⟨hR, hQ, cy⟩ | go_keep)
    (first
      | (go_at_call 59; refine (quotient_any a t q _ HOK.out HW1.out HW2.out HC.out).mono ?_; rintro e w1 ⟨b, hb, rfl, hg⟩; have HB := Lib.hid hb; have HBB := Lib.hid (show 0 ≤ b ∧ b < q from ⟨hb.1, hb.2.1⟩); have HGN := Lib.hid ((show Gr W W.drew from (Gr.refl W).drew).trans hg); have hR := HGN.out.keeps hR; have hQ := HGN.out.keeps hQ; have cx := HGN.out.keeps cx; have cy := HGN.out.keeps cy; have FD := Lib.hid ((Below.frozen HGN.out (World.block_lt_of_cell? W _ D0.out)).trans FD.out); have D0 := Lib.hid (HGN.out.keeps D0.out); have HG1 := Lib.hid (HG.out.trans HGN.out); clear hg hb HGN)
      | (go_at_call 58; refine (balance_any b q _ HOK.out HBB.out).mono ?_; rintro e w2 ⟨rfl, hg⟩; have hR := hg.keeps hR; have hQ := hg.keeps hQ; have cx := hg.keeps cx; have cy := hg.keeps cy; have fd := (Below.frozen hg (World.block_lt_of_cell? w1 _ D0.out)).trans FD.out; have d0 := hg.keeps D0.out; have HG2 := Lib.hid (HG1.out.trans hg); obtain ⟨B, hB⟩ : ∃ B, B = bal b q := ⟨_, rfl⟩; rw [← hB]; have hBB := bal_odd hq3.2.2 HBB.out; rw [← hB] at hBB; have HBV := Lib.hid hB; have htb := tb_bound ht (B := B) ⟨by omega, by omega⟩; have e3 : IntKind.i64.wrap (t * B) = t * B := IntWalk.i64_in _ (by omega); clear hg hB))
  obtain ⟨d, hd⟩ : ∃ d, d = t * B := ⟨_, rfl⟩
  rw [← hd] at htb e3 ⊢
  have HDD := Lib.hid hd
  obtain ⟨V, hV⟩ : ∃ V, V = w2.setCell ⟨DB, 0, none⟩ (.int .i64 d) := ⟨_, rfl⟩
  rw [← hV]
  have HGV := Lib.hid (show Gr w V by rw [hV]; exact HG2.out.setCell (p := ⟨DB, 0, none⟩) (by rw [hA0]; exact hD0) _)
  have HRV := Lib.hid (show V.cell? ⟨RB, 0, none⟩ = some (.slice (some ⟨gy, oy, none⟩) n cb) by rw [hV]; exact (Lo.cell_far (fun e => m2 (congrArg Addr.block e)) _).trans hR)
  have HQV := Lib.hid (show V.cell? ⟨QB, 0, none⟩ = some (.int .u32 q) by rw [hV]; exact (Lo.cell_far (fun e => m4 (congrArg Addr.block e)) _).trans hQ)
  have HDV := Lib.hid (show V.cell? ⟨DB, 0, none⟩ = some (.int .i64 d) by rw [hV]; exact Lo.cell_set d0 _)
  have HFV := Lib.hid (show V.frozen? ⟨DB, 0, none⟩ = false by rw [hV]; exact (Lo.frozen_set1 _ _ _ _).trans fd)
  have HDBV := Lib.hid (show -4611686018427387904 ≤ d ∧ d ≤ 4611686018427387904 by omega)
  have HQQ := Lib.hid (show 0 ≤ q ∧ q ≤ 2147483647 by omega)
  have HRLEN := Lib.hid (show r.length = n from by rw [HR.out.1]; exact HN.out.symm)
  have HUV := Lib.hid (HU.out.later HGV.out)
  have HTV := Lib.hid (HTK.out.later HGV.out)
  have HFF := Lib.hid (show ∀ i, i < (l.take m).length → ∀ W', Gr V W' → Calls Tryz.prog 75 (#[.int .i64 i, .int .u32 (Op.cf (l.take m) i)] ++ #[.pointer (some ⟨RB, 0, none⟩), .pointer (some ⟨DB, 0, none⟩), .pointer (some ⟨QB, 0, none⟩)]) W' (IntU (qf (Op.cf r i - d) q (Op.cf l i)) W') from fun i hi W' hg => by
    rw [HTL.out] at hi
    have hil : i < l.length := by have := HN.out; omega
    have e : Op.cf (l.take m) i = Op.cf l i := by rw [Op.cf_take, if_pos hi]
    have h3 := HS.out.at_ hil
    rw [e]
    exact divide1_any r _ d q (Op.cf l i) RB DB QB i W' (HUV.out.later hg) (by rw [HRLEN.out]; omega) ⟨by omega, by omega⟩ HQQ.out HDBV.out (by rw [HQ.out]; exact HS.out.two (by have := HN.out; omega) hil (by omega)) (hg.keeps HRV.out) (hg.keeps HDV.out) (hg.keeps HQV.out))
  have HFB := Lib.hid (show ∀ i, i < (l.take m).length → 0 ≤ qf (Op.cf r i - d) q (Op.cf l i) ∧ qf (Op.cf r i - d) q (Op.cf l i) < 4294967296 from fun i hi => qf_bound _ _ (by
    rw [HTL.out] at hi
    have := HS.out.at_ (i := i) (by have := HN.out; omega)
    omega))
  have HTL25 := Lib.hid (show (l.take m).length ≤ 25 by rw [HTL.out]; omega)
  clear hV hR hQ cx cy fd d0 hd e1 e2 e3
  go_wp2_with fail
  refine (brow_any (l.take m) _ 75 _ (fun i => qf (Op.cf r i - d) q (Op.cf l i)) V HTO.out HTL25.out HTV.out (enters_of Tryz.func75 (by kernel_rfl) (by kernel_rfl)) HFF.out HFB.out).mono ?_
  rintro e w4 ⟨ra, rk, rc, rfl, hp, hf, hg⟩
  have HP := Lib.hid hp
  have hD4 := hg.keeps HDV.out
  have hF4 := (Below.frozen hg (World.block_lt_of_cell? V _ HDV.out)).trans HFV.out
  have HG4 := Lib.hid (HGV.out.trans hg)
  clear hp hf hg
  go_wp2_with fail
  go_region
  go_wp2_with fail
  refine bodyPost_ret (v := .tuple #[.slice ra rk rc, .int .i64 d]) (by simp [results, Tryz.results45, go_sem, hD4]) rfl ?_
  have hp := HP.out
  rw [HTL.out] at hp
  refine ⟨ra, rk, rc, _, d, rfl, (hp.setAt hD4 (by simp) _).later (Gr.refl _).drew, (HDIVR.out d _).2 ⟨b, HB.out, ?_, rfl⟩, (HG4.out.setCell (p := ⟨DB, 0, none⟩) (by rw [hA0]; exact hD0) _).drew⟩
  rw [HDD.out, HBV.out]
end Go.Proofs.YtfpdemmdkiohhaaGreat.Mo
/- Package residue: Drop and Scale. -/
namespace Go.Proofs.YtfpdemmdkiohhaaGreat.Mo
open Go.RowKit
set_option linter.unusedVariables false

def DropR (l r row : List Int) (d c : Int) : Prop := (¬ RowOf l r ∧ c = 2 ∧ row = [] ∧ d = 0) ∨ (RowOf l r ∧ l.length = 1 ∧ c = 9 ∧ row = [] ∧ d = 0) ∨ (RowOf l r ∧ 2 ≤ l.length ∧ c = 0 ∧ DivR l r 1 d row)
def ScaleR (l r : List Int) (t : Int) (row : List Int) (c : Int) : Prop := (¬ RowOf l r ∧ c = 2 ∧ row = []) ∨ (RowOf l r ∧ (t < 1 ∨ t > 2147483647 ∨ t % Op.cf l (l.length - 1) = 0) ∧ c = 2 ∧ row = []) ∨
  (RowOf l r ∧ ¬ (t < 1 ∨ t > 2147483647 ∨ t % Op.cf l (l.length - 1) = 0) ∧ l.length = 1 ∧ c = 9 ∧ row = []) ∨ (RowOf l r ∧ ¬ (t < 1 ∨ t > 2147483647 ∨ t % Op.cf l (l.length - 1) = 0) ∧ 2 ≤ l.length ∧ c = 0 ∧ ∃ d, DivR l r t d row)
def DropPost (R : List Int → Int → Int → Prop) (w : World) (e : Ending) (w' : World) : Prop := ∃ a n c row d E, e = .returned (.tuple #[.slice a n c, .int .i64 d, .int .i64 E]) ∧ HasP w' (.slice a n c) row ∧ R row d E ∧ Gr w w'
def ScalePost (R : List Int → Int → Prop) (w : World) (e : Ending) (w' : World) : Prop := ∃ a n c row E, e = .returned (.tuple #[.slice a n c, .int .i64 E]) ∧ HasP w' (.slice a n c) row ∧ R row E ∧ Gr w w'
/-- What is no multiple of one of the numbers has no divisor in common with it. -/
def PrimeL (l : List Int) : Prop := ∀ q ∈ l, ∀ x : Int, ¬ q ∣ x → Int.gcd x q = 1

set_option maxRecDepth 100000 in
set_option maxHeartbeats 2000000 in
theorem drop_any (S : Nat) (l r : List Int) (vr : Value) (w : World) (h : IsSys w S l) (hs : Sys l) (hu : HasP w vr r) : Calls Tryz.prog 16 #[.pointer (some ⟨S, 0, none⟩), vr] w (DropPost (DropR l r) w) := by
  have H := Lib.hid h
  have HS := Lib.hid hs
  have HU := Lib.hid hu
  obtain ⟨-, xb, cb, rfl, -, -, -⟩ := hu
  clear h hs
  go_enter Tryz.func16, Tryz.ntmps16
  go_wp2_with fail
  refine (check_any S l r _ _ H.out HS.out HU.out).mono ?_
  rintro e w1 ⟨c, ⟨rfl, hg⟩, hc⟩
  have HG := Lib.hid hg
  obtain ⟨v, h0, h1, h2⟩ := H.out.later hg
  have HV := Lib.hid h1
  obtain ⟨-, xa, ca, rfl, -, -, -⟩ := h1
  clear hg h2
  rcases hc with ⟨rfl, hrow⟩ | ⟨rfl, hrow⟩
  · have HROW := Lib.hid hrow
    clear hrow
    rcases Nat.lt_or_ge l.length 2 with hl | hl
    · have hl1 : l.length = 1 := by have := HS.out.2.2.2.1; omega
      have HL1 := Lib.hid hl1
      rw [hl1] at h0
      clear hl1 hl
      go_wp2_with fail
      refine bodyPost_ret (v := .tuple #[.slice none 0 0, .int .i64 0, .int .i64 9]) (by simp [results, Tryz.results16, go_sem]) rfl ?_
      exact ⟨none, 0, 0, [], 0, 9, rfl, HasP.nil _, .inr (.inl ⟨HROW.out, HL1.out, rfl, rfl, rfl⟩), HG.out⟩
    · have HL2 := Lib.hid hl
      obtain ⟨n, hn⟩ : ∃ n, n = l.length := ⟨_, rfl⟩
      have HN := Lib.hid hn
      rw [← hn] at h0 HV hl
      have hb : ((n : Int) == 1) = false := by simp; omega
      have hb2 : ¬ (n : Int) = 1 := by omega
      clear hn hl
      go_wp2_with fail
      refine (divide_any l r 1 _ _ _ HS.out HL2.out HROW.out HV.out (HU.out.later HG.out) (by omega) (by simp)).mono ?_
      rintro e w2 ⟨ra, rk, rc, row, d, rfl, hp, hd, hg⟩
      have HP := Lib.hid hp
      have HD := Lib.hid hd
      have HG2 := Lib.hid (HG.out.trans hg)
      clear hp hd hg
      go_wp2_with fail
      refine bodyPost_ret (v := .tuple #[.slice ra rk rc, .int .i64 d, .int .i64 0]) (by simp [results, Tryz.results16, go_sem]) rfl ?_
      exact ⟨ra, rk, rc, row, d, 0, rfl, HP.out, .inr (.inr ⟨HROW.out, HL2.out, rfl, HD.out⟩), HG2.out⟩
  · have HROW := Lib.hid hrow
    clear hrow
    go_wp2_with fail
    refine bodyPost_ret (v := .tuple #[.slice none 0 0, .int .i64 0, .int .i64 2]) (by simp [results, Tryz.results16, go_sem]) rfl ?_
    exact ⟨none, 0, 0, [], 0, 2, rfl, HasP.nil _, .inl ⟨HROW.out, rfl, rfl, rfl⟩, HG.out⟩

set_option maxRecDepth 100000 in
set_option maxHeartbeats 4000000 in
theorem scale_any (S : Nat) (l r : List Int) (t : Int) (vr : Value) (w : World) (h : IsSys w S l) (hs : Sys l) (hpl : PrimeL l) (hu : HasP w vr r) (ht : 0 ≤ t ∧ t ≤ 4294967295) : Calls Tryz.prog 18 #[.pointer (some ⟨S, 0, none⟩), vr, .int .u32 t] w (ScalePost (ScaleR l r t) w) := by
  have H := Lib.hid h
  have HS := Lib.hid hs
  have HU := Lib.hid hu
  have HPL := Lib.hid hpl
  obtain ⟨-, xb, cb, rfl, -, -, -⟩ := hu
  obtain ⟨ht0, ht1⟩ := ht
  clear h hs hpl
  go_enter Tryz.func18, Tryz.ntmps18
  go_wp2_with fail
  refine (check_any S l r _ _ H.out HS.out HU.out).mono ?_
  rintro e w1 ⟨c, ⟨rfl, hg⟩, hc⟩
  have HG := Lib.hid hg
  obtain ⟨v, h0, h1, h2⟩ := H.out.later hg
  have HV := Lib.hid h1
  obtain ⟨-, xa, ca, rfl, -, -, vc⟩ := h1
  clear hg h2
  rcases hc with ⟨rfl, hrow⟩ | ⟨rfl, hrow⟩
  · have HROW := Lib.hid hrow
    clear hrow
    obtain ⟨n, hn⟩ : ∃ n, n = l.length := ⟨_, rfl⟩
    obtain ⟨m, hm⟩ : ∃ m, m = n - 1 := ⟨_, rfl⟩
    have hn1 : 1 ≤ n := by rw [hn]; exact HS.out.2.2.2.1
    have hn25 : n ≤ 25 := by rw [hn]; exact HS.out.2.2.2.2
    obtain ⟨gx, ox, rfl, cx⟩ := vc m (by omega)
    have hq3 := HS.out.at_ (i := m) (by omega)
    have HSR := Lib.hid (show ∀ row c, ScaleR l r t row c ↔ ((¬ RowOf l r ∧ c = 2 ∧ row = []) ∨ (RowOf l r ∧ (t < 1 ∨ t > 2147483647 ∨ t % Op.cf l m = 0) ∧ c = 2 ∧ row = []) ∨ (RowOf l r ∧ ¬ (t < 1 ∨ t > 2147483647 ∨ t % Op.cf l m = 0) ∧ n = 1 ∧ c = 9 ∧ row = []) ∨ (RowOf l r ∧ ¬ (t < 1 ∨ t > 2147483647 ∨ t % Op.cf l m = 0) ∧ 2 ≤ n ∧ c = 0 ∧ ∃ d, DivR l r t d row)) from fun row c => by rw [hm, hn]; exact Iff.rfl)
    have HMEM := Lib.hid (show Op.cf l m ∈ l from Op.cf_mem (by omega))
    have HML := Lib.hid (show Op.cf l (l.length - 1) = Op.cf l m by rw [hm, hn])
    obtain ⟨q, hq⟩ : ∃ q, q = Op.cf l m := ⟨_, rfl⟩
    rw [← hq] at cx hq3 HSR HMEM HML
    have HN := Lib.hid hn
    rw [← hn] at h0 HV
    have i0 : (0 : Int) ≤ (m : Int) := by omega
    have i1 : (m : Int) < (n : Int) := by omega
    have i2 : (n : Int) - 1 = (m : Int) := by omega
    have HM := Lib.hid hm
    clear vc hn hm hq
    have hcase : t < 1 ∨ (¬ t < 1 ∧ t > 2147483647) ∨ (¬ t < 1 ∧ ¬ t > 2147483647 ∧ t % q = 0) ∨ (¬ t < 1 ∧ ¬ t > 2147483647 ∧ ¬ t % q = 0) := by omega
    have hq0 : ¬ q = 0 := by omega
    have hq0b : (q == 0) = false := by simp; omega
    have hr0 := emod_lo t q (by omega)
    have hr1 := emod_hi t q (by omega)
    rcases hcase with h3 | ⟨h3, h4⟩ | ⟨h3, h4, h5⟩ | ⟨h3, h4, h5⟩
    · go_wp2_with fail
      go_ret2
      exact ⟨none, 0, 0, [], 2, rfl, HasP.nil _, (HSR.out _ _).2 (.inr (.inl ⟨HROW.out, .inl h3, rfl, rfl⟩)), HG.out⟩
    · go_wp2_with fail
      go_ret2
      exact ⟨none, 0, 0, [], 2, rfl, HasP.nil _, (HSR.out _ _).2 (.inr (.inl ⟨HROW.out, .inr (.inl h4), rfl, rfl⟩)), HG.out⟩
    · have H5 := Lib.hid h5
      have h5b : (t % q == 0) = true := by simpa using h5
      clear h5
      go_wp2_with fail
      go_ret2
      exact ⟨none, 0, 0, [], 2, rfl, HasP.nil _, (HSR.out _ _).2 (.inr (.inl ⟨HROW.out, .inr (.inr H5.out), rfl, rfl⟩)), HG.out⟩
    · have H5 := Lib.hid (show ¬ (t < 1 ∨ t > 2147483647 ∨ t % q = 0) by omega)
      have h5b : (t % q == 0) = false := by simpa using h5
      have HGC := Lib.hid (show Int.gcd t (Op.cf l (l.length - 1)) = 1 by rw [HML.out]; exact HPL.out q HMEM.out t (fun hd => h5 (Int.emod_eq_zero_of_dvd hd)))
      have HT := Lib.hid (show 1 ≤ t ∧ t ≤ 2147483647 by omega)
      rcases Nat.lt_or_ge n 2 with hl | hl
      · have hm0 : m = 0 := by have := HM.out; omega
        obtain rfl : n = 1 := by omega
        have HN1 := Lib.hid (show 1 = 1 from rfl)
        subst hm0
        rw [Nat.add_zero] at cx
        clear hl i0 i1 i2
        go_wp2_with fail
        go_ret2
        exact ⟨none, 0, 0, [], 9, rfl, HasP.nil _, (HSR.out _ _).2 (.inr (.inr (.inl ⟨HROW.out, H5.out, HN1.out, rfl, rfl⟩))), HG.out⟩
      · have hmb : ((m : Int) == 0) = false := by have := HM.out; simp; omega
        have hmb2 : ¬ (m : Int) = 0 := by have := HM.out; omega
        have HL2 := Lib.hid hl
        clear hl
        go_wp2_with fail
        refine (divide_any l r t _ _ _ HS.out (by rw [← HN.out]; exact HL2.out) HROW.out HV.out (HU.out.later HG.out) HT.out HGC.out).mono ?_
        rintro e w2 ⟨ra, rk, rc, row, d, rfl, hp, hd, hg⟩
        have HP := Lib.hid hp
        have HD := Lib.hid hd
        have HG2 := Lib.hid (HG.out.trans hg)
        clear hp hd hg
        go_wp2_with fail
        go_ret2
        exact ⟨ra, rk, rc, row, 0, rfl, HP.out, (HSR.out _ _).2 (.inr (.inr (.inr ⟨HROW.out, H5.out, HL2.out, rfl, d, HD.out⟩))), HG2.out⟩
  · have HROW := Lib.hid hrow
    clear hrow
    go_wp2_with fail
    go_ret2
    exact ⟨none, 0, 0, [], 2, rfl, HasP.nil _, .inl ⟨HROW.out, rfl, rfl⟩, HG.out⟩
end Go.Proofs.YtfpdemmdkiohhaaGreat.Mo
/- Package residue: Convert. -/
namespace Go.Proofs.YtfpdemmdkiohhaaGreat.Mo
open Go.RowKit
set_option linter.unusedVariables false

/-- The integer for which a row stands. -/
def JoinV (l r : List Int) (X : Int) : Prop := (-(Or.pr l) < 2 * X ∧ 2 * X < Or.pr l) ∧ ∀ j, j < l.length → Op.cf l j ∣ X - Op.cf r j
theorem JoinV.unique {l r : List Int} (hs : Sys l) {X Y : Int} (h : JoinV l r X) (k : JoinV l r Y) : X = Y :=
  Or.unique hs.2.2.1 h.1 k.1 (fun j hj => by
    have e : X - Y = (X - Op.cf r j) - (Y - Op.cf r j) := by omega
    rw [at_cf, e]; exact Int.dvd_sub (h.2 j hj) (k.2 j hj))
theorem joinV_of {l r ds : List Int} (hs : Sys l) (h : Or.DgI l r ds) (hn : ds.length = l.length) : JoinV l r (Or.mv l ds) := by
  have := h.value (fun p hp => by have := hs.1 p hp; omega) hn
  refine ⟨this.1, fun j hj => ?_⟩
  have h2 := this.2 j hj
  rwa [at_cf, at_cf] at h2
def ConvR (l l' r row : List Int) (c : Int) : Prop := (¬ RowOf l r ∧ c = 2 ∧ row = []) ∨ (RowOf l r ∧ c = 0 ∧ ∃ X, JoinV l r X ∧ row = rowL l'.length (fun i => X % Op.cf l' i))

set_option maxRecDepth 100000 in
set_option maxHeartbeats 2000000 in
theorem convert1_any (S : Nat) (l ds : List Int) (vd : Value) (p : Int) (SB KB i : Nat) (w : World) (h : IsSys w S l) (hs : Sys l) (hd : Lo.HasQ w vd ds) (hn : ds.length ≤ l.length) (hdd : ∀ j, j < ds.length → -1073741824 ≤ Op.cf ds j ∧ Op.cf ds j ≤ 1073741824) (hp : okP p)
    (hS : w.cell? ⟨SB, 0, none⟩ = some (.pointer (some ⟨S, 0, none⟩))) (hK : w.cell? ⟨KB, 0, none⟩ = some vd) :
    Calls Tryz.prog 43 #[.int .i64 i, .int .u32 p, .pointer (some ⟨SB, 0, none⟩), .pointer (some ⟨KB, 0, none⟩)] w (IntU (Or.mv l ds % p) w) := by
  obtain ⟨v, h0, h1, -⟩ := h
  have HV := Lib.hid h1
  have HD := Lib.hid hd
  obtain ⟨-, xa, ca, rfl, -, -, -⟩ := h1
  obtain ⟨-, xd, cd, rfl, -, -, -⟩ := hd
  have HS := Lib.hid hs
  have HN := Lib.hid hn
  have HDD := Lib.hid hdd
  have HP := Lib.hid hp
  clear hs hn hdd hp
  go_enter Tryz.func43, Tryz.ntmps43
  go_wp2_with fail
  obtain ⟨n, hnn⟩ : ∃ n, n = l.length := ⟨_, rfl⟩
  obtain ⟨m, hmm⟩ : ∃ m, m = ds.length := ⟨_, rfl⟩
  have HV2 := Lib.hid (HV.out.later (Gr.refl w).drew)
  have HD2 := Lib.hid (HD.out.later (Gr.refl w).drew)
  rw [← hnn] at h0 HV2
  rw [← hmm] at hK HD2
  clear hnn hmm
  go_region_held3 (fun wz => wz.cell? ⟨SB, 0, none⟩ = some (.pointer (some ⟨S, 0, none⟩)) ∧ wz.cell? ⟨S, 0, none⟩ = some (.slice xa n ca) ∧ wz.cell? ⟨KB, 0, none⟩ = some (.slice xd m cd)) (go_keep)
    (first | (go_at_call 44; refine (bvalue_any l ds p _ _ _ HP.out HS.out.1 HV2.out HD2.out HN.out (by have := HS.out.2.2.2.2; omega) HDD.out).mono ?_; rintro e w1 ⟨rfl, hg⟩; have HG1 := Lib.hid ((show Gr w w.drew from (Gr.refl w).drew).trans hg); have hS := HG1.out.keeps hS; have h0 := HG1.out.keeps h0; have hK := HG1.out.keeps hK; clear hg))
  go_wp2_with fail
  go_ret
  exact ⟨rfl, HG1.out⟩

set_option maxRecDepth 100000 in
set_option maxHeartbeats 4000000 in
theorem convert_any (S T : Nat) (l l' r : List Int) (vr : Value) (w : World) (h : IsSys w S l) (ht : IsSys w T l') (hs : Sys l) (hs' : Sys l') (hu : HasP w vr r) : Calls Tryz.prog 14 #[.pointer (some ⟨S, 0, none⟩), vr, .pointer (some ⟨T, 0, none⟩)] w (ScalePost (ConvR l l' r) w) := by
  have hg0 := Gr.new w (.cells #[.pointer (some ⟨S, 0, none⟩)] 28)
  have H := Lib.hid (h.later hg0)
  have HT := Lib.hid (ht.later hg0)
  have HU := Lib.hid (hu.later hg0)
  have HG0 := Lib.hid hg0
  have HS := Lib.hid hs
  have HS' := Lib.hid hs'
  obtain ⟨-, xb, cb, rfl, -, -, -⟩ := hu
  have HB := Lib.hid (show (w.alloc (.cells #[.pointer (some ⟨S, 0, none⟩)] 28)).cell? ⟨w.heap.size, 0, none⟩ = some (.pointer (some ⟨S, 0, none⟩)) by simp [go_sem])
  clear h ht hg0 hs hs'
  go_enter Tryz.func14, Tryz.ntmps14
  go_wp2_with fail
  refine (made_yes T l' _ HT.out).mono ?_
  rintro e w1 ⟨rfl, hg⟩
  have hb := hg.keeps HB.out
  have HG := Lib.hid (HG0.out.trans hg)
  have H1 := Lib.hid (H.out.later hg)
  have HT1 := Lib.hid (HT.out.later hg)
  have HU1 := Lib.hid (HU.out.later hg)
  clear hg
  go_wp2_with fail
  refine (check_any S l r _ _ H1.out HS.out HU1.out).mono ?_
  rintro e w2 ⟨c, ⟨rfl, hg⟩, hc⟩
  have hb := hg.keeps hb
  have HG2 := Lib.hid (HG.out.trans hg)
  have H2 := Lib.hid (H1.out.later hg)
  have HT2 := Lib.hid (HT1.out.later hg)
  have HU2 := Lib.hid (HU1.out.later hg)
  obtain ⟨v, h0, h1, -⟩ := H2.out
  have HV := Lib.hid h1
  obtain ⟨-, xa, ca, rfl, -, -, -⟩ := h1
  clear hg
  rcases hc with ⟨rfl, hrow⟩ | ⟨rfl, hrow⟩
  · have HROW := Lib.hid hrow
    clear hrow
    go_wp2_with fail
    refine (digits_any l r _ _ _ HS.out HROW.out HV.out HU2.out).mono ?_
    rintro e w3 ⟨da, dk, dc, ds, rfl, hd, hdg, hdl, hg⟩
    have HD := Lib.hid hd
    have HDG := Lib.hid hdg
    have HDL := Lib.hid hdl
    have hb := hg.keeps hb
    have HG3 := Lib.hid (HG2.out.trans hg)
    have H3 := Lib.hid (H2.out.later hg)
    have HT3 := Lib.hid (HT2.out.later hg)
    clear hd hdg hdl hg h0
    have hgn := Gr.new w3 (.cells #[.slice da dk dc] 64)
    have HBN := Lib.hid (hgn.keeps hb)
    have HKN := Lib.hid (show (w3.alloc (.cells #[.slice da dk dc] 64)).cell? ⟨w3.heap.size, 0, none⟩ = some (.slice da dk dc) by simp [go_sem])
    have HDN := Lib.hid (HD.out.later hgn)
    have HSN := Lib.hid (H3.out.later hgn)
    have HTN := Lib.hid (HT3.out.later hgn)
    have HGN := Lib.hid (HG3.out.trans hgn)
    obtain ⟨v', t0, t1, -⟩ := HTN.out
    have HV' := Lib.hid t1
    obtain ⟨-, xt, ct, rfl, -, -, -⟩ := t1
    clear hgn hb
    have HFF := Lib.hid (show ∀ i, i < l'.length → ∀ W', Gr (w3.alloc (.cells #[.slice da dk dc] 64)) W' → Calls Tryz.prog 43 (#[.int .i64 i, .int .u32 (Op.cf l' i)] ++ #[.pointer (some ⟨w.heap.size, 0, none⟩), .pointer (some ⟨w3.heap.size, 0, none⟩)]) W' (IntU (Or.mv l ds % Op.cf l' i) W') from fun i hi W' hg =>
      convert1_any S l ds _ (Op.cf l' i) w.heap.size w3.heap.size i W' (HSN.out.later hg) HS.out (HDN.out.later hg) (by rw [HDL.out]; exact Nat.le_refl _) (fun j hj => dg_small HDG.out HS.out.1 hj) (by have := HS'.out.at_ hi; exact ⟨by omega, by omega⟩) (hg.keeps HBN.out) (hg.keeps HKN.out))
    have HFB := Lib.hid (show ∀ i, i < l'.length → 0 ≤ Or.mv l ds % Op.cf l' i ∧ Or.mv l ds % Op.cf l' i < 4294967296 from fun i hi => by
      have := HS'.out.at_ hi
      have a := emod_lo (Or.mv l ds) (Op.cf l' i) (by omega)
      have b := emod_hi (Or.mv l ds) (Op.cf l' i) (by omega)
      omega)
    go_wp2_with fail
    refine (brow_any l' _ 43 _ (fun i => Or.mv l ds % Op.cf l' i) _ HS'.out.1 HS'.out.2.2.2.2 HV'.out (enters_of Tryz.func43 (by kernel_rfl) (by kernel_rfl)) HFF.out HFB.out).mono ?_
    rintro e w4 ⟨ra, rk, rc, rfl, hp, hf, hg⟩
    have HP := Lib.hid hp
    have HG4 := Lib.hid (HGN.out.trans hg)
    clear hp hf hg
    go_wp2_with fail
    go_ret2
    exact ⟨ra, rk, rc, _, 0, rfl, HP.out, .inr ⟨HROW.out, rfl, _, joinV_of HS.out HDG.out HDL.out, rfl⟩, HG4.out⟩
  · have HROW := Lib.hid hrow
    clear hrow
    go_wp2_with fail
    go_ret2
    exact ⟨none, 0, 0, [], 2, rfl, HasP.nil _, .inl ⟨HROW.out, rfl, rfl⟩, HG2.out⟩
end Go.Proofs.YtfpdemmdkiohhaaGreat.Mo
/- Package residue: Moduli. -/
namespace Go.Proofs.YtfpdemmdkiohhaaGreat.Mo
open Go.RowKit
set_option linter.unusedVariables false

end Go.Proofs.YtfpdemmdkiohhaaGreat.Mo
/- What package residue uses of package wide. -/
namespace Go.Proofs.YtfpdemmdkiohhaaGreat.Mo
open Go.RowKit
set_option linter.unusedVariables false

/-- The form of an integer. -/
def wv (z : Int) : Value := .agg #[.bool (decide (z < 0)), .string (bstr z.natAbs)]
def InR (z : Int) : Prop := z.natAbs < Ow.R
theorem wof_any (n : Int) (w : World) (h : isW n) : Calls Tryz.prog 21 #[.int .i64 n] w (fun e w' => e = .returned (wv n) ∧ Gr w w') := by
  refine (of_any n w h.1 h.2).mono ?_
  rintro e w' ⟨rfl, hg⟩
  exact ⟨rfl, hg⟩
theorem wmul_any (x y : Int) (w : World) (hx : InR x) (hy : InR y) (hz : InR (x * y)) : Calls Tryz.prog 33 #[wv x, wv y] w (fun e w' => e = .returned (.tuple #[wv (x * y), .int .i64 0]) ∧ Gr w w') := by
  refine (Go.Proofs.YtfpdemmdkiohhaaGreat.mul_ok _ _ _ _ w (form_bstr x hx) (form_bstr y hy)).mono ?_
  rintro e w' ⟨rfl, hg⟩
  rw [zOf_bstr, zOf_bstr, fNeg_in hz, fStr_in hz, fErr_in hz]
  exact ⟨rfl, hg⟩
theorem wadd_any (x y : Int) (w : World) (hx : InR x) (hy : InR y) (hz : InR (x + y)) : Calls Tryz.prog 34 #[wv x, wv y] w (fun e w' => e = .returned (.tuple #[wv (x + y), .int .i64 0]) ∧ Gr w w') := by
  refine (Go.Proofs.YtfpdemmdkiohhaaGreat.add_ok _ _ _ _ w (form_bstr x hx) (form_bstr y hy)).mono ?_
  rintro e w' ⟨rfl, hg⟩
  rw [zOf_bstr, zOf_bstr, fNeg_in hz, fStr_in hz, fErr_in hz]
  exact ⟨rfl, hg⟩
theorem resU_mod (neg : Bool) (s : ByteArray) (h : Form neg s) {n : Nat} (hn : n ≠ 0) : ((resU neg (zOf neg s).natAbs n : Nat) : Int) = zOf neg s % (n : Int) := by
  have hz : zOf neg s = sg neg (zOf neg s).natAbs := by rw [zOf_abs]; rfl
  generalize (zOf neg s).natAbs = V at *
  rw [hz]
  have h1 := Nat.mod_lt V (Nat.pos_of_ne_zero hn)
  cases neg with
  | false => simp [resU, sg]
  | true =>
    simp only [resU, sg, true_and, if_true]
    by_cases h0 : 0 < V % n
    · rw [if_pos h0]
      have e : (-(V : Int)) % (n : Int) = ((n - V % n : Nat) : Int) := by
        have h3 := Nat.div_add_mod V n
        have e2 : -(V : Int) = (n : Int) * (-((V / n : Nat) : Int) - 1) + ((n - V % n : Nat) : Int) := by
          rw [Int.mul_sub, Int.mul_neg, Int.mul_one, ← Int.natCast_mul]; omega
        rw [e2, Int.mul_add_emod_self_left]
        exact Int.emod_eq_of_lt (by omega) (by omega)
      exact e.symm
    · rw [if_neg h0]
      have h2 : V % n = 0 := by omega
      have h3 : ((n : Nat) : Int) ∣ -(V : Int) := Int.dvd_neg.2 (Int.natCast_dvd_natCast.2 (Nat.dvd_of_mod_eq_zero h2))
      rw [Int.emod_eq_zero_of_dvd h3, h2]; rfl
theorem wmod_any (neg : Bool) (s : ByteArray) (p : Int) (w : World) (h : Form neg s) (hp : okP p) : Calls Tryz.prog 28 #[.agg #[.bool neg, .string s], .int .u32 p] w (fun e w' => e = .returned (.tuple #[.int .u32 (zOf neg s % p), .int .i64 0]) ∧ Gr w w') := by
  obtain ⟨n, rfl⟩ := Int.eq_ofNat_of_zero_le (show 0 ≤ p by have := hp.1; omega)
  have h1 := hp.1
  have h2 := hp.2
  have hn : n ≠ 0 := by omega
  refine (Go.Proofs.YtfpdemmdkiohhaaGreat.mod_ok neg s n w h (by omega) hn).mono ?_
  rintro e w' ⟨rfl, hg⟩
  rw [resU_mod neg s h hn]
  exact ⟨rfl, hg⟩
theorem wvalid_any (neg : Bool) (s : ByteArray) (w : World) (hs : s.size ≤ 9223372036854775807) : Calls Tryz.prog 25 #[.agg #[.bool neg, .string s]] w (BoolPost (Form neg s) w) := by
  refine (valid_any neg s w hs).mono ?_
  rintro e w' ⟨r, rfl, h, hg⟩
  exact ⟨r, rfl, h, hg⟩
end Go.Proofs.YtfpdemmdkiohhaaGreat.Mo
/- Package residue: Split. -/
namespace Go.Proofs.YtfpdemmdkiohhaaGreat.Mo
open Go.RowKit
set_option linter.unusedVariables false

def SplitR (l : List Int) (neg : Bool) (s : ByteArray) (row : List Int) (c : Int) : Prop := (¬ Form neg s ∧ c = 2 ∧ row = []) ∨ (Form neg s ∧ c = 0 ∧ row = rowL l.length (fun i => zOf neg s % Op.cf l i))

set_option maxRecDepth 100000 in
set_option maxHeartbeats 1000000 in
theorem split1_any (neg : Bool) (s : ByteArray) (p : Int) (B i : Nat) (w : World) (hF : Form neg s) (hp : okP p) (h0 : w.cell? ⟨B, 0, none⟩ = some (.bool neg)) (h1 : w.cell? ⟨B, 1, none⟩ = some (.string s)) :
    Calls Tryz.prog 27 #[.int .i64 i, .int .u32 p, .pointer (some ⟨B, 0, none⟩)] w (IntU (zOf neg s % p) w) := by
  have HF := Lib.hid hF
  have HP := Lib.hid hp
  clear hF hp
  go_enter Tryz.func27, Tryz.ntmps27
  go_wp2_with fail
  refine (wmod_any neg s p _ HF.out HP.out).mono ?_
  rintro e w1 ⟨rfl, hg⟩
  have HG := Lib.hid hg
  clear hg
  go_wp2_with fail
  go_ret
  exact ⟨rfl, HG.out⟩
set_option maxRecDepth 100000 in
set_option maxHeartbeats 2000000 in
theorem split_any (S : Nat) (l : List Int) (neg : Bool) (s : ByteArray) (w : World) (h : IsSys w S l) (hs : Sys l) (hsz : s.size ≤ 9223372036854775807) : Calls Tryz.prog 7 #[.pointer (some ⟨S, 0, none⟩), .agg #[.bool neg, .string s]] w (ScalePost (SplitR l neg s) w) := by
  have hg0 := Gr.new w (.cells #[.bool neg, .string s] 24)
  have H := Lib.hid (h.later hg0)
  have HG0 := Lib.hid hg0
  have HS := Lib.hid hs
  have HZ := Lib.hid hsz
  have B0 := Lib.hid (show (w.alloc (.cells #[.bool neg, .string s] 24)).cell? ⟨w.heap.size, 0, none⟩ = some (.bool neg) by simp [go_sem])
  have B1 := Lib.hid (show (w.alloc (.cells #[.bool neg, .string s] 24)).cell? ⟨w.heap.size, 1, none⟩ = some (.string s) by simp [go_sem])
  clear h hg0 hs hsz
  go_enter Tryz.func7, Tryz.ntmps7
  go_wp2_with fail
  refine (made_yes S l _ H.out).mono ?_
  rintro e w1 ⟨rfl, hg⟩
  have HG := Lib.hid (HG0.out.trans hg)
  have H1 := Lib.hid (H.out.later hg)
  have b0 := hg.keeps B0.out
  have b1 := hg.keeps B1.out
  clear hg
  go_wp2_with fail
  refine (wvalid_any neg s _ HZ.out).mono ?_
  rintro e w2 ⟨b, rfl, hb, hg⟩
  have HB := Lib.hid hb
  have HG2 := Lib.hid (HG.out.trans hg)
  have H2 := Lib.hid (H1.out.later hg)
  have C0 := Lib.hid (hg.keeps b0)
  have C1 := Lib.hid (hg.keeps b1)
  clear hg hb b0 b1
  cases b with
  | false =>
    go_wp2_with fail
    go_ret2
    exact ⟨none, 0, 0, [], 2, rfl, HasP.nil _, .inl ⟨fun h => by have := HB.out.2 h; simp at this, rfl, rfl⟩, HG2.out⟩
  | true =>
    have HF := Lib.hid (HB.out.1 (by simp))
    obtain ⟨v, h0, h1, -⟩ := H2.out
    have HV := Lib.hid h1
    obtain ⟨-, xa, ca, rfl, -, -, -⟩ := h1
    have HFF := Lib.hid (show ∀ i, i < l.length → ∀ W', Gr w2 W' → Calls Tryz.prog 27 (#[.int .i64 i, .int .u32 (Op.cf l i)] ++ #[.pointer (some ⟨w.heap.size, 0, none⟩)]) W' (IntU (zOf neg s % Op.cf l i) W') from fun i hi W' hg =>
      split1_any neg s (Op.cf l i) w.heap.size i W' HF.out (by have := HS.out.at_ hi; exact ⟨by omega, by omega⟩) (hg.keeps C0.out) (hg.keeps C1.out))
    have HFB := Lib.hid (show ∀ i, i < l.length → 0 ≤ zOf neg s % Op.cf l i ∧ zOf neg s % Op.cf l i < 4294967296 from fun i hi => by
      have := HS.out.at_ hi
      have a := emod_lo (zOf neg s) (Op.cf l i) (by omega)
      have b := emod_hi (zOf neg s) (Op.cf l i) (by omega)
      omega)
    go_wp2_with fail
    refine (brow_any l _ 27 _ (fun i => zOf neg s % Op.cf l i) _ HS.out.1 HS.out.2.2.2.2 HV.out (enters_of Tryz.func27 (by kernel_rfl) (by kernel_rfl)) HFF.out HFB.out).mono ?_
    rintro e w4 ⟨ra, rk, rc, rfl, hp, hf, hg⟩
    have HP := Lib.hid hp
    have HG4 := Lib.hid (HG2.out.trans hg)
    clear hp hf hg
    go_wp2_with fail
    go_ret2
    exact ⟨ra, rk, rc, _, 0, rfl, HP.out, .inr ⟨HF.out, rfl, rfl⟩, HG4.out⟩
end Go.Proofs.YtfpdemmdkiohhaaGreat.Mo
